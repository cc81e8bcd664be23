/-
  Chapter 6: right graphs stay right, whatever is made, stored, fetched, put or copied. Chapter 7 as lists: what is reached (a least fixpoint), and what a walk that follows each ref once comes to. Chapter 7 as the program has it: whom an object waits for, and what it keeps. Chapter 7 as the program has it: what is kept in memory while refs are followed, and how it changes. 'append([]Ref{}, list...)': a list of its own, and nothing that there was is changed.
-/
import Derived.Test.YtfajnnibkcnkaalM7
import Derived.Test.YtfajnnibkcnkaalM6
import Derived.Test.YtfajnnibkcnkaalM1
import Derived.Deep.Upon
namespace Go.Proofs.Ytfajnnibkcnkaal.gr
open Go.RowKit rows heads
set_option maxRecDepth 100000

structure Right (G : Gr) : Prop where
  head : gHead G = true
  ob : ∀ i, i < G.objs.length → obOk G.objs G.next i = true
  sl : ∀ i, i < G.objs.length → ∀ k, k < (G.objs.getD i obD).slots.length → refOk G.objs ((G.objs.getD i obD).slots.getD k refD) = true
  root : ∀ i, i < 6 → refOk G.objs (G.roots.getD i refD) = true
  mo : ∀ i, i < G.mourned.length → (G.mourned.getD i refD).1 = 2 ∧ refOk G.objs (G.mourned.getD i refD) = true
theorem right_of {G : Gr} (h : gOk G = true) : Right G := by
  unfold gOk at h
  simp only [Bool.and_eq_true, List.all_eq_true, List.mem_range] at h
  obtain ⟨⟨⟨h0, h1⟩, h2⟩, h3⟩ := h
  refine ⟨h0, fun i hi => (h1 i hi).1, fun i hi k hk => ?_, h2, fun i hi => ?_⟩
  · have := (h1 i hi).2
    unfold slOk at this
    rw [List.all_eq_true] at this
    exact this k (List.mem_range.2 hk)
  · have := h3 i hi
    simpa using this
theorem Right.gOk {G : Gr} (h : Right G) : gOk G = true := by
  refine gOk_yes h.head (fun i hi => ?_) h.root (fun i hi => ?_)
  · rw [h.ob i hi, slOk_yes (h.sl i hi)]
    rfl
  · have := h.mo i hi
    rw [this.1, this.2]
    rfl
theorem atI_map (os : List Ob) (id : Int) : atI os id = match (os.map Ob.id).findIdx? (fun o => o == id) with | some i => (i : Int) | none => -1 := by
  unfold atI
  rw [List.findIdx?_map]
  rfl
theorem atI_ids {os os' : List Ob} (h : os.map Ob.id = os'.map Ob.id) (id : Int) : atI os id = atI os' id := by rw [atI_map, atI_map, h]
theorem refOk_ids {os os' : List Ob} (h : os.map Ob.id = os'.map Ob.id) (r : Rf) : refOk os r = refOk os' r := by unfold refOk; rw [atI_ids h]
theorem atI_app {os : List Ob} {id : Int} (h : 0 ≤ atI os id) (ys : List Ob) : atI (os ++ ys) id = atI os id := by
  unfold atI at h ⊢
  rw [List.findIdx?_append]
  cases e : os.findIdx? (fun o => o.id == id) with
  | none => rw [e] at h; simp at h
  | some i => rfl
theorem refOk_app {os : List Ob} {r : Rf} (h : refOk os r = true) (ys : List Ob) : refOk (os ++ ys) r = true := by
  unfold refOk at h ⊢
  split
  · rename_i e; rw [if_pos e] at h; exact h
  · rename_i e
    rw [if_neg e] at h
    split
    · rename_i e'; rw [if_pos e'] at h; exact h
    · rename_i e'
      rw [if_neg e'] at h
      simp only [Bool.and_eq_true, decide_eq_true_eq] at h ⊢
      rw [atI_app h.2]
      exact h
theorem atI_new {os : List Ob} {n : Ob} (h : ∀ m, m < os.length → ¬ (os.getD m obD).id = n.id) : atI (os ++ [n]) n.id = os.length := by
  refine atI_at (by simp) (by simp) (fun m hm => ?_)
  have := h m hm
  rw [List.getD_eq_getElem?_getD, List.getElem?_append_left hm, ← List.getD_eq_getElem?_getD]
  exact this
theorem getD_app_l {os ys : List Ob} {i : Nat} (hi : i < os.length) : (os ++ ys).getD i obD = os.getD i obD := by
  rw [List.getD_eq_getElem?_getD, List.getElem?_append_left hi, ← List.getD_eq_getElem?_getD]
theorem obOk_lt {os : List Ob} {next : Int} {i : Nat} (h : obOk os next i = true) : lastOf os i < (os.getD i obD).id ∧ (os.getD i obD).id < next ∧ (os.getD i obD).fmt ≤ 2 ∧ hok ((os.getD i obD).slots.length : Int) (os.getD i obD).fmt (os.getD i obD).cls (os.getD i obD).hash false false = true := by
  simp only [obOk, Bool.and_eq_true, decide_eq_true_eq] at h
  exact ⟨h.1.1.1, h.1.1.2, h.1.2, h.2⟩
theorem obOk_mk {os : List Ob} {next : Int} {i : Nat} (h : lastOf os i < (os.getD i obD).id ∧ (os.getD i obD).id < next ∧ (os.getD i obD).fmt ≤ 2 ∧ hok ((os.getD i obD).slots.length : Int) (os.getD i obD).fmt (os.getD i obD).cls (os.getD i obD).hash false false = true) : obOk os next i = true := by
  simp only [obOk, Bool.and_eq_true, decide_eq_true_eq]
  exact ⟨⟨⟨h.1, h.2.1⟩, h.2.2.1⟩, h.2.2.2⟩
theorem lastOf_lt {os : List Ob} {next : Int} (h1 : 1 ≤ next) (h : ∀ i, i < os.length → obOk os next i = true) : ∀ i, i ≤ os.length → lastOf os i < next
  | 0, _ => by show (0 : Int) < next; omega
  | i + 1, hi => (obOk_lt (h i (by omega))).2.1
theorem lastOf_app (os ys : List Ob) : ∀ i, i ≤ os.length → lastOf (os ++ ys) i = lastOf os i
  | 0, _ => rfl
  | i + 1, hi => by
    show ((os ++ ys).getD i obD).id = (os.getD i obD).id
    rw [getD_app_l (by omega)]
theorem hok_hash {s f c h : Int} (e : hok s f c 0 false false = true) (hf : f ≤ 2) (h0 : 0 ≤ h) (h1 : h ≤ 65535) : hok s f c h false false = true := by
  have h6 : ¬ f = 6 := by omega
  unfold hok at e ⊢
  rw [if_neg h6] at e ⊢
  simp only [Bool.and_eq_true] at e ⊢
  refine ⟨e.1, ?_⟩
  simp [inR]
  omega
theorem drawn_in (s : Int) : 0 ≤ drawn s ∧ drawn s ≤ 65535 := by unfold drawn; omega
theorem newOk_parts {c f s : Int} (h : newOk c f s = true) : 0 ≤ s ∧ s ≤ 20 ∧ 0 ≤ f ∧ f ≤ 2 ∧ hok s f c 0 false false = true := by
  unfold newOk at h
  simp only [Bool.and_eq_true] at h
  have h1 := hok_true h.2
  have h2 : 0 ≤ f ∧ f ≤ 2 := by simpa [inR] using h.1
  exact ⟨h1.1, h1.2.1, h2.1, h2.2, h.2⟩
theorem made_cases (G : Gr) (x c f s : Int) : made G x c f s = (G, false) ∨ (inR 0 5 x = true ∧ newOk c f s = true ∧ G.objs.length ≠ 200 ∧ G.next ≠ 100000 ∧ made G x c f s = (⟨G.objs ++ [⟨G.next, c, f, drawn G.seed, List.replicate s.toNat refD⟩], G.roots.set x.toNat (2, G.next), G.mourned, G.next + 1, drawn G.seed⟩, true)) := by
  unfold made
  split
  · rename_i h
    simp only [Bool.and_eq_true, decide_eq_true_eq] at h
    exact .inr ⟨h.1.1, h.1.2, h.2.1, h.2.2, rfl⟩
  · exact .inl rfl
theorem getD_set_refs (rs : List Rf) (k i : Nat) (e : Rf) : (rs.set k e).getD i refD = if k = i ∧ i < rs.length then e else rs.getD i refD := by
  rw [List.getD_eq_getElem?_getD, List.getElem?_set, List.getD_eq_getElem?_getD]
  by_cases h : k = i
  · subst h
    by_cases h2 : k < rs.length
    · simp [h2]
    · simp [h2]
  · simp [h]
theorem ids_ne {G : Gr} (h : Right G) {i : Nat} (hi : i < G.objs.length) : ¬ (G.objs.getD i obD).id = G.next := by
  have := (obOk_lt (h.ob i hi)).2.1
  omega
theorem head_parts {G : Gr} (h : gHead G = true) : G.objs.length ≤ 200 ∧ G.roots.length = 6 ∧ G.mourned.length ≤ 40 ∧ 1 ≤ G.next ∧ G.next ≤ 100000 ∧ 0 ≤ G.seed ∧ G.seed ≤ 65535 := by
  simp only [gHead, inR, Bool.and_eq_true, decide_eq_true_eq] at h
  omega
theorem head_mk {G : Gr} (h : G.objs.length ≤ 200 ∧ G.roots.length = 6 ∧ G.mourned.length ≤ 40 ∧ 1 ≤ G.next ∧ G.next ≤ 100000 ∧ 0 ≤ G.seed ∧ G.seed ≤ 65535) : gHead G = true := by
  simp only [gHead, inR, Bool.and_eq_true, decide_eq_true_eq]
  omega
theorem right_root {G : Gr} (h : Right G) (k : Nat) {e : Rf} (he : refOk G.objs e = true) : Right { G with roots := G.roots.set k e } := by
  have hp := head_parts h.head
  refine ⟨head_mk (by simpa using hp), h.ob, h.sl, fun i hi => ?_, h.mo⟩
  show refOk G.objs ((G.roots.set k e).getD i refD) = true
  rw [getD_set_refs]
  split
  · exact he
  · exact h.root i hi
theorem right_made {G : Gr} (h : Right G) (x c f s : Int) : Right (made G x c f s).1 := by
  rcases made_cases G x c f s with e | ⟨hx, hn, hl, hN, e⟩ <;> rw [e]
  · exact h
  have hp := head_parts h.head
  have hx' : 0 ≤ x ∧ x ≤ 5 := by simpa [inR] using hx
  obtain ⟨s0, s1, f0, f1, hk⟩ := newOk_parts hn
  have hd := drawn_in G.seed
  have hnew := atI_new (os := G.objs) (n := ⟨G.next, c, f, drawn G.seed, List.replicate s.toNat refD⟩) (fun m hm => ids_ne h hm)
  refine ⟨head_mk ?_, fun i hi => ?_, fun i hi k hk' => ?_, fun i hi => ?_, fun i hi => ?_⟩
  · simp only [List.length_append, List.length_set, List.length_cons, List.length_nil]
    omega
  · simp only [List.length_append, List.length_cons, List.length_nil] at hi
    by_cases h2 : i < G.objs.length
    · have := obOk_lt (h.ob i h2)
      refine obOk_mk ?_
      show lastOf (G.objs ++ _) i < ((G.objs ++ _).getD i obD).id ∧ ((G.objs ++ _).getD i obD).id < G.next + 1 ∧ ((G.objs ++ _).getD i obD).fmt ≤ 2 ∧ _
      rw [lastOf_app _ _ i (by omega), getD_app_l h2]
      exact ⟨this.1, by omega, this.2.2⟩
    · have h3 : i = G.objs.length := by omega
      subst h3
      refine obOk_mk ?_
      show lastOf (G.objs ++ _) _ < ((G.objs ++ _).getD _ obD).id ∧ ((G.objs ++ _).getD _ obD).id < G.next + 1 ∧ ((G.objs ++ _).getD _ obD).fmt ≤ 2 ∧ _
      rw [lastOf_app _ _ _ (Nat.le_refl _)]
      have := lastOf_lt hp.2.2.2.1 h.ob _ (Nat.le_refl _)
      simp
      refine ⟨this, by omega, by omega, ?_⟩
      have e1 : max s 0 = s := by omega
      rw [e1]
      exact hok_hash hk f1 hd.1 hd.2
  · simp only [List.length_append, List.length_cons, List.length_nil] at hi
    show refOk (G.objs ++ _) (((G.objs ++ _).getD i obD).slots.getD k refD) = true
    by_cases h2 : i < G.objs.length
    · rw [getD_app_l h2]
      refine refOk_app (h.sl i h2 k ?_) _
      have : k < ((G.objs ++ _).getD i obD).slots.length := hk'
      rwa [getD_app_l h2] at this
    · have h3 : i = G.objs.length := by omega
      subst h3
      have e2 : (List.replicate s.toNat refD).getD k refD = refD := by
        rw [List.getD_eq_getElem?_getD, List.getElem?_replicate]
        split <;> rfl
      have e3 : (G.objs ++ [(⟨G.next, c, f, drawn G.seed, List.replicate s.toNat refD⟩ : Ob)]).getD G.objs.length obD = ⟨G.next, c, f, drawn G.seed, List.replicate s.toNat refD⟩ := by simp
      rw [e3]
      show refOk _ ((List.replicate s.toNat refD).getD k refD) = true
      rw [e2]
      rfl
  · show refOk (G.objs ++ _) ((G.roots.set x.toNat (2, G.next)).getD i refD) = true
    rw [getD_set_refs]
    split
    · unfold refOk
      simp only [show ¬ (2 : Int) = 0 by decide, show ¬ (2 : Int) = 1 by decide, if_false]
      have e1 : atI (G.objs ++ [⟨G.next, c, f, drawn G.seed, List.replicate s.toNat refD⟩]) G.next = G.objs.length := hnew
      rw [e1]
      simp
    · exact refOk_app (h.root i hi) _
  · have := h.mo i hi
    exact ⟨this.1, refOk_app this.2 _⟩
theorem slotIn_parts {G : Gr} (h : Right G) {x s : Int} (hs : slotIn G x s = true) : 0 ≤ x ∧ x ≤ 5 ∧ (rootAt G x).1 = 2 ∧ plc G x < G.objs.length ∧ 0 ≤ s ∧ s.toNat < (G.objs.getD (plc G x) obD).slots.length := by
  simp only [slotIn, Bool.and_eq_true, decide_eq_true_eq, beq_iff_eq] at hs
  obtain ⟨⟨h1, h2⟩, h3, h4⟩ := hs
  have h1' : 0 ≤ x ∧ x ≤ 5 := by simpa [inR] using h1
  have := (leads_plc h.gOk (x := x) (by unfold leads; rw [h1, h2]; rfl)).2
  exact ⟨h1'.1, h1'.2, h2, this, h3, by omega⟩
theorem right_fetch {G : Gr} (h : Right G) (t f s : Int) : Right (fetch G t f s).1 := by
  unfold fetch
  split
  · rename_i hc
    rw [Bool.and_eq_true] at hc
    have p := slotIn_parts h hc.2
    exact right_root h _ (h.sl _ p.2.2.2.1 _ p.2.2.2.2.2)
  · exact h
theorem right_copyRoot {G : Gr} (h : Right G) (t f : Int) : Right (copyRoot G t f).1 := by
  unfold copyRoot
  split
  · rename_i hc
    rw [Bool.and_eq_true] at hc
    have p : 0 ≤ f ∧ f ≤ 5 := by simpa [inR] using hc.2
    exact right_root h _ (h.root _ (by omega))
  · exact h
theorem right_putR {G : Gr} (h : Right G) (x : Int) (e : Rf) : Right (putR G x e).1 := by
  unfold putR
  split
  · rename_i hc
    simp only [Bool.and_eq_true] at hc
    exact right_root h _ hc.2.2
  · exact h
theorem setSlot_ids (os : List Ob) (k j : Nat) (e : Rf) : (setSlot os k j e).map Ob.id = os.map Ob.id := by
  unfold setSlot
  by_cases h : k < os.length
  · refine List.ext_getElem (by simp) (fun i h1 h2 => ?_)
    simp only [List.getElem_map, List.getElem_set]
    split
    · rename_i e1
      subst e1
      rw [List.getD_eq_getElem?_getD, List.getElem?_eq_getElem h]
      rfl
    · rfl
  · rw [List.set_eq_of_length_le (by omega)]
theorem setSlot_getD {os : List Ob} {k : Nat} (hk : k < os.length) (j : Nat) (e : Rf) (i : Nat) : (setSlot os k j e).getD i obD = if i = k then { os.getD k obD with slots := (os.getD k obD).slots.set j e } else os.getD i obD := by
  unfold setSlot
  rw [List.getD_eq_getElem?_getD, List.getElem?_set]
  by_cases h : k = i
  · subst h
    simp [hk]
  · have h' : ¬ i = k := fun e => h e.symm
    simp only [h, h', if_false]
    rw [← List.getD_eq_getElem?_getD]
theorem lastOf_setSlot {os : List Ob} {k : Nat} (hk : k < os.length) (j : Nat) (e : Rf) : ∀ i, lastOf (setSlot os k j e) i = lastOf os i
  | 0 => rfl
  | i + 1 => by
    show ((setSlot os k j e).getD i obD).id = (os.getD i obD).id
    rw [setSlot_getD hk]
    split
    · rename_i e1; subst e1; rfl
    · rfl
theorem right_setSlot {G : Gr} (h : Right G) {k : Nat} (hk : k < G.objs.length) (j : Nat) {e : Rf} (he : refOk G.objs e = true) : Right { G with objs := setSlot G.objs k j e } := by
  have hp := head_parts h.head
  have hids := setSlot_ids G.objs k j e
  have hlen : (setSlot G.objs k j e).length = G.objs.length := by simp [setSlot]
  refine ⟨head_mk (by simpa [hlen] using hp), fun i hi => obOk_mk ?_, fun i hi n hn => ?_, fun i hi => ?_, fun i hi => ?_⟩
  · have hi' : i < G.objs.length := by rw [← hlen]; exact hi
    have := obOk_lt (h.ob i hi')
    show lastOf (setSlot G.objs k j e) i < ((setSlot G.objs k j e).getD i obD).id ∧ ((setSlot G.objs k j e).getD i obD).id < G.next ∧ ((setSlot G.objs k j e).getD i obD).fmt ≤ 2 ∧ hok (((setSlot G.objs k j e).getD i obD).slots.length : Int) ((setSlot G.objs k j e).getD i obD).fmt ((setSlot G.objs k j e).getD i obD).cls ((setSlot G.objs k j e).getD i obD).hash false false = true
    rw [lastOf_setSlot hk, setSlot_getD hk]
    split
    · rename_i e1
      subst e1
      simpa using this
    · exact this
  · have hi' : i < G.objs.length := by rw [← hlen]; exact hi
    have hn' : n < ((setSlot G.objs k j e).getD i obD).slots.length := hn
    show refOk (setSlot G.objs k j e) (((setSlot G.objs k j e).getD i obD).slots.getD n refD) = true
    rw [refOk_ids hids]
    rw [setSlot_getD hk] at hn' ⊢
    split at hn'
    · rename_i e1
      subst e1
      rw [if_pos rfl]
      rw [getD_set_refs]
      split
      · exact he
      · exact h.sl _ hi' n (by simpa using hn')
    · rename_i e1
      rw [if_neg e1]
      exact h.sl i hi' n hn'
  · show refOk (setSlot G.objs k j e) (G.roots.getD i refD) = true
    rw [refOk_ids hids]
    exact h.root i hi
  · have := h.mo i hi
    refine ⟨this.1, ?_⟩
    show refOk (setSlot G.objs k j e) (G.mourned.getD i refD) = true
    rw [refOk_ids hids]
    exact this.2
theorem right_store {G : Gr} (h : Right G) (t s f : Int) : Right (store G t s f).1 := by
  unfold store
  split
  · rename_i hc
    rw [Bool.and_eq_true] at hc
    have p := slotIn_parts h hc.2
    have pf : 0 ≤ f ∧ f ≤ 5 := by simpa [inR] using hc.1
    exact right_setSlot h p.2.2.2.1 _ (h.root _ (by omega))
  · exact h
/-- What was stored is fetched, and nothing is changed thereby. -/
theorem fetch_store {G : Gr} (h : Right G) {t s f : Int} (hs : (store G t s f).2 = true) : fetch (store G t s f).1 f t s = ((store G t s f).1, true) := by
  have hc : (inR 0 5 f && slotIn G t s) = true := by
    cases d : (inR 0 5 f && slotIn G t s)
    · unfold store at hs; rw [d] at hs; cases hs
    · rfl
  have e : store G t s f = ({ G with objs := setSlot G.objs (plc G t) s.toNat (rootAt G f) }, true) := by unfold store; rw [if_pos hc]
  rw [e]
  rw [Bool.and_eq_true] at hc
  have p := slotIn_parts h hc.2
  have pf : 0 ≤ f ∧ f ≤ 5 := by simpa [inR] using hc.1
  have ep : plc { G with objs := setSlot G.objs (plc G t) s.toNat (rootAt G f) } t = plc G t := by
    unfold plc
    show (atI (setSlot G.objs _ _ _) (rootAt G t).2).toNat = _
    rw [atI_ids (setSlot_ids _ _ _ _)]
  have eg : (setSlot G.objs (plc G t) s.toNat (rootAt G f)).getD (plc G t) obD = { G.objs.getD (plc G t) obD with slots := (G.objs.getD (plc G t) obD).slots.set s.toNat (rootAt G f) } := by
    rw [setSlot_getD p.2.2.2.1, if_pos rfl]
  have hsl : slotIn { G with objs := setSlot G.objs (plc G t) s.toNat (rootAt G f) } t s = true := by
    unfold slotIn
    rw [ep]
    show (inR 0 5 t && (rootAt G t).1 == 2 && (decide (0 ≤ s) && decide (s < ((setSlot G.objs (plc G t) s.toNat (rootAt G f)).getD (plc G t) obD).slots.length))) = true
    rw [eg]
    have := hc.2
    unfold slotIn at this
    simpa using this
  unfold fetch
  rw [hc.1, hsl, ep]
  show (({ objs := setSlot G.objs (plc G t) s.toNat (rootAt G f), roots := G.roots.set f.toNat (((setSlot G.objs (plc G t) s.toNat (rootAt G f)).getD (plc G t) obD).slots.getD s.toNat refD), mourned := G.mourned, next := G.next, seed := G.seed } : Gr), true) = _
  rw [eg]
  have e3 : ((G.objs.getD (plc G t) obD).slots.set s.toNat (rootAt G f)).getD s.toNat refD = rootAt G f := by
    rw [getD_set_refs, if_pos ⟨rfl, p.2.2.2.2.2⟩]
  have e4 : G.roots.set f.toNat (rootAt G f) = G.roots := by
    have hl := (head_parts h.head).2.1
    have hf : f.toNat < G.roots.length := by omega
    unfold rootAt
    rw [List.getD_eq_getElem?_getD, List.getElem?_eq_getElem hf]
    exact List.set_getElem_self hf
  simp only [e3, e4]
/-- Right graphs are small. -/
theorem slotsOf_le : ∀ (os : List Ob), (∀ i, i < os.length → (os.getD i obD).slots.length ≤ 20) → slotsOf os ≤ 20 * os.length
  | [], _ => by simp [slotsOf]
  | o :: os, h => by
    have h0 := h 0 (by simp)
    have := slotsOf_le os (fun i hi => by have := h (i + 1) (by simp; omega); simpa using this)
    simp only [slotsOf, List.length_cons]
    simp at h0
    omega
theorem right_small {G : Gr} (h : Right G) : Small G := by
  intro rs er
  have hp := head_parts h.head
  have l1 : rs.length = G.objs.length := by rw [← er]; simp
  have l2 : slotsLen rs = slotsOf G.objs := by rw [slotsOf_abs, er]
  have l3 := slotsOf_le G.objs (fun i hi => by have := (hok_true (obOk_lt (h.ob i hi)).2.2.2).2.1; omega)
  unfold gSize
  omega
theorem hR_GMade (G : Gr) (x c f s : Int) (_ : ∃ ms : List MO, ms.map MO.abs = G.objs ∧ gSize ms G ≤ 1048576) : Small (gMade G x c f s).1 := by
  unfold gMade
  split
  · rename_i hk
    exact right_small (right_made (right_of hk) x c f s)
  · exact small_zero
/-- The new one is at its root. -/
theorem hash_made {G : Gr} (h : Right G) {x c f s : Int} (hm : (made G x c f s).2 = true) : gHash (made G x c f s).1 x = drawn G.seed := by
  rcases made_cases G x c f s with e | ⟨hx, hn, hl, hN, e⟩
  · rw [e] at hm; cases hm
  have hr := right_made h x c f s
  have hp := head_parts h.head
  have hx' : 0 ≤ x ∧ x ≤ 5 := by simpa [inR] using hx
  have hnew := atI_new (os := G.objs) (n := ⟨G.next, c, f, drawn G.seed, List.replicate s.toNat refD⟩) (fun m hm => ids_ne h hm)
  rw [e] at hr ⊢
  have e1 : rootAt { objs := G.objs ++ [⟨G.next, c, f, drawn G.seed, List.replicate s.toNat refD⟩], roots := G.roots.set x.toNat (2, G.next), mourned := G.mourned, next := G.next + 1, seed := drawn G.seed : Gr } x = (2, G.next) := by
    show (G.roots.set x.toNat (2, G.next)).getD x.toNat refD = _
    rw [getD_set_refs, if_pos ⟨rfl, by omega⟩]
  unfold gHash
  rw [if_pos hr.gOk]
  unfold hashAt
  rw [e1, hx, if_pos (show (true && ((2, G.next) : Rf).1 == 2) = true from rfl)]
  have e2 : atI (G.objs ++ [⟨G.next, c, f, drawn G.seed, List.replicate s.toNat refD⟩]) G.next = G.objs.length := hnew
  show ((G.objs ++ [_]).getD (atI (G.objs ++ [_]) G.next).toNat obD).hash = _
  rw [e2]
  simp
end Go.Proofs.Ytfajnnibkcnkaal.gr
namespace Go.Proofs.Ytfajnnibkcnkaal.gr
open Go.RowKit rows heads
set_option linter.unusedVariables false

/-- What an object keeps. -/
def onw (o : Ob) : List Rf := if o.fmt = 0 then o.slots else if o.fmt = 2 then o.slots.drop 1 else []
/-- The place of the one that must be come to ahead of that. -/
def awt (os : List Ob) (o : Ob) : Option Nat := if o.fmt = 2 ∧ ledB os (o.slots.getD 0 refD) = true then some (ledP os (o.slots.getD 0 refD)) else none
/-- Closed: what roots and mourned lead to is there, and what one leads on to that is there. -/
def Closed (G : Gr) (S : Nat → Prop) : Prop :=
  (∀ r, r ∈ G.roots ++ G.mourned → ledB G.objs r = true → S (ledP G.objs r)) ∧
  (∀ p, S p → awt G.objs (G.objs.getD p obD) = none → ∀ r, r ∈ onw (G.objs.getD p obD) → ledB G.objs r = true → S (ledP G.objs r)) ∧
  (∀ p q, S p → awt G.objs (G.objs.getD p obD) = some q → S q → ∀ r, r ∈ onw (G.objs.getD p obD) → ledB G.objs r = true → S (ledP G.objs r))
/-- The places that are reached: those in all that is closed. -/
def Rch (G : Gr) (p : Nat) : Prop := ∀ S, Closed G S → S p
theorem Rch.root {G : Gr} (r : Rf) (h : r ∈ G.roots ++ G.mourned) (hl : ledB G.objs r = true) : Rch G (ledP G.objs r) := fun S c => c.1 r h hl
theorem Rch.on0 {G : Gr} (p : Nat) (hp : Rch G p) (ha : awt G.objs (G.objs.getD p obD) = none) (r : Rf) (h : r ∈ onw (G.objs.getD p obD)) (hl : ledB G.objs r = true) : Rch G (ledP G.objs r) := fun S c => c.2.1 p (hp S c) ha r h hl
theorem Rch.on1 {G : Gr} (p q : Nat) (hp : Rch G p) (ha : awt G.objs (G.objs.getD p obD) = some q) (hq : Rch G q) (r : Rf) (h : r ∈ onw (G.objs.getD p obD)) (hl : ledB G.objs r = true) : Rch G (ledP G.objs r) := fun S c => c.2.2 p q (hp S c) ha (hq S c) r h hl
theorem rch_lt {G : Gr} {p : Nat} (h : Rch G p) : p < G.objs.length := h (fun p => p < G.objs.length) ⟨fun r _ hl => ledP_lt hl, fun _ _ _ r _ hl => ledP_lt hl, fun _ _ _ _ _ r _ hl => ledP_lt hl⟩

/-- What is kept while refs are followed: which places were come to, and what waits for which place. -/
structure St where
  is : List Bool
  wt : List (List Rf)
abbrev St.i (s : St) (p : Nat) : Bool := s.is.getD p false
abbrev St.w (s : St) (p : Nat) : List Rf := s.wt.getD p []
def goes (G : Gr) (t : St) (l : List Rf) : Prop := ∀ r ∈ l, ledB G.objs r = true → t.i (ledP G.objs r) = true
/-- Nothing is left to do of the one at this place. -/
def Done (G : Gr) (t : St) (p : Nat) : Prop := (awt G.objs (G.objs.getD p obD) = none → goes G t (onw (G.objs.getD p obD))) ∧ ∀ q, awt G.objs (G.objs.getD p obD) = some q → (t.i q = true → goes G t (onw (G.objs.getD p obD))) ∧ (t.i q = false → ∀ r ∈ onw (G.objs.getD p obD), r ∈ t.w q)
/-- A list was followed. -/
structure Step (G : Gr) (L : List Rf) (s t : St) : Prop where
  mono : ∀ p, s.i p = true → t.i p = true
  all : goes G t L
  done : ∀ p, t.i p = true → s.i p = false → Done G t p
  old : ∀ q, s.i q = false → t.i q = true → goes G t (s.w q)
  keep : ∀ q, t.i q = false → ∀ r ∈ s.w q, r ∈ t.w q
theorem goes_mono {G : Gr} {s t : St} {l : List Rf} (h : goes G s l) (m : ∀ p, s.i p = true → t.i p = true) : goes G t l := fun r hr hl => m _ (h r hr hl)
theorem Step.refl {G : Gr} (s : St) : Step G [] s s := ⟨fun _ h => h, fun r hr => (List.not_mem_nil hr).elim, fun p h1 h2 => (by rw [h1] at h2; cases h2), fun q h1 h2 => (by rw [h1] at h2; cases h2), fun _ _ _ h => h⟩
theorem Step.trans {G : Gr} {L M : List Rf} {s t u : St} (a : Step G L s t) (b : Step G M t u) : Step G (L ++ M) s u := by
  have old : ∀ q, s.i q = false → u.i q = true → goes G u (s.w q) := fun q h1 h2 => by
    cases h : t.i q
    · exact fun r hr hl => b.old q h h2 r (a.keep q h r hr) hl
    · exact goes_mono (a.old q h1 h) b.mono
  refine ⟨fun p h => b.mono p (a.mono p h), fun r hr hl => ?_, fun p h1 h2 => ?_, old, fun q h r hr => ?_⟩
  · rcases List.mem_append.1 hr with h | h
    · exact b.mono _ (a.all r h hl)
    · exact b.all r h hl
  · cases h : t.i p
    · exact b.done p h1 h
    · obtain ⟨d0, d1⟩ := a.done p h h2
      refine ⟨fun e => goes_mono (d0 e) b.mono, fun q e => ⟨fun hq => ?_, fun hq => ?_⟩⟩
      · cases h' : t.i q
        · exact fun r hr hl => b.old q h' hq r ((d1 q e).2 h' r hr) hl
        · exact goes_mono ((d1 q e).1 h') b.mono
      · have h' : t.i q = false := by
          cases h' : t.i q
          · rfl
          · rw [b.mono q h'] at hq; cases hq
        exact fun r hr => b.keep q hq r ((d1 q e).2 h' r hr)
  · have h' : t.i q = false := by
      cases h' : t.i q
      · rfl
      · rw [b.mono q h'] at h; cases h
    exact b.keep q h r (a.keep q h' r hr)
/-- What was come to is reached, and what waits is so once that for which it waits is. -/
structure Sound (G : Gr) (s : St) : Prop where
  i : ∀ p, s.i p = true → Rch G p
  w : ∀ q r, r ∈ s.w q → Rch G q → ledB G.objs r = true → Rch G (ledP G.objs r)
def SoundL (G : Gr) (L : List Rf) : Prop := ∀ r ∈ L, ledB G.objs r = true → Rch G (ledP G.objs r)
/-- A place is come to. -/
def St.come (s : St) (p : Nat) : St := ⟨s.is.set p true, s.wt⟩
/-- Refs wait for a place. -/
def St.wait (s : St) (q : Nat) (l : List Rf) : St := ⟨s.is, s.wt.set q (s.w q ++ l)⟩
theorem come_i {s : St} {p : Nat} (hp : p < s.is.length) (k : Nat) : (s.come p).i k = if k = p then true else s.i k := by
  show (s.is.set p true).getD k false = _
  rw [List.getD_eq_getElem?_getD, List.getElem?_set]
  by_cases h : p = k
  · subst h
    simp [hp]
  · rw [if_neg h, if_neg (fun e => h e.symm), ← List.getD_eq_getElem?_getD]
theorem wait_w {s : St} {q : Nat} {l : List Rf} (hq : q < s.wt.length) (k : Nat) : (s.wait q l).w k = if k = q then s.w q ++ l else s.w k := by
  show (s.wt.set q (s.w q ++ l)).getD k [] = _
  rw [List.getD_eq_getElem?_getD, List.getElem?_set]
  by_cases h : q = k
  · subst h
    simp [hq]
  · rw [if_neg h, if_neg (fun e => h e.symm), ← List.getD_eq_getElem?_getD]
theorem sound_come {G : Gr} {s : St} {p : Nat} (h : Sound G s) (hp : p < s.is.length) (hr : Rch G p) : Sound G (s.come p) := by
  refine ⟨fun k hk => ?_, h.w⟩
  rw [come_i hp] at hk
  split at hk
  · rename_i e; rw [e]; exact hr
  · exact h.i k hk
theorem sound_wait {G : Gr} {s : St} {p q : Nat} (h : Sound G s) (hq : q < s.wt.length) (hp : Rch G p) (ha : awt G.objs (G.objs.getD p obD) = some q) : Sound G (s.wait q (onw (G.objs.getD p obD))) := by
  refine ⟨h.i, fun k r hr hk hl => ?_⟩
  rw [wait_w hq] at hr
  split at hr
  · rename_i e
    subst e
    rcases List.mem_append.1 hr with h' | h'
    · exact h.w k r h' hk hl
    · exact Rch.on1 p k hp ha hk r h' hl
  · exact h.w k r hr hk hl
/-- One that leads nowhere new. -/
theorem step_no {G : Gr} {s : St} {r : Rf} (h : ledB G.objs r = true → s.i (ledP G.objs r) = true) : Step G [r] s s :=
  ⟨fun _ h => h, fun r' hr => by rw [List.mem_singleton.1 hr]; exact h, fun p h1 h2 => (by rw [h1] at h2; cases h2), fun q h1 h2 => (by rw [h1] at h2; cases h2), fun _ _ _ h => h⟩
/-- One that is new, and waits for nobody. -/
theorem step_go {G : Gr} {s t u : St} {r : Rf} (hn : s.i (ledP G.objs r) = false) (hp : ledP G.objs r < s.is.length)
    (a : Step G (s.w (ledP G.objs r)) (s.come (ledP G.objs r)) t) (b : Step G (onw (G.objs.getD (ledP G.objs r) obD)) t u)
    (hw : ∀ q, awt G.objs (G.objs.getD (ledP G.objs r) obD) = some q → t.i q = true) : Step G [r] s u := by
  have c := a.trans b
  have hu : u.i (ledP G.objs r) = true := c.mono _ (by rw [come_i hp, if_pos rfl])
  refine ⟨fun p h => c.mono p ?_, fun r' hr hl => by rw [List.mem_singleton.1 hr]; exact hu, fun p h1 h2 => ?_, fun q h1 h2 => ?_, fun q h r' hr => c.keep q h r' hr⟩
  · rw [come_i hp]; split
    · rfl
    · exact h
  · by_cases e : p = ledP G.objs r
    · subst e
      exact ⟨fun _ => b.all, fun q e => ⟨fun _ => b.all, fun h => (by rw [b.mono q (hw q e)] at h; cases h)⟩⟩
    · exact c.done p h1 (by rw [come_i hp, if_neg e]; exact h2)
  · by_cases e : q = ledP G.objs r
    · subst e
      exact goes_mono a.all b.mono
    · exact c.old q (by rw [come_i hp, if_neg e]; exact h1) h2
/-- One that is new, and waits for a place that was not come to. -/
theorem step_wait {G : Gr} {s t : St} {r : Rf} {q : Nat} (hn : s.i (ledP G.objs r) = false) (hp : ledP G.objs r < s.is.length)
    (a : Step G (s.w (ledP G.objs r)) (s.come (ledP G.objs r)) t) (hq : q < t.wt.length)
    (ha : awt G.objs (G.objs.getD (ledP G.objs r) obD) = some q) (hw : t.i q = false) : Step G [r] s (t.wait q (onw (G.objs.getD (ledP G.objs r) obD))) := by
  have hu : t.i (ledP G.objs r) = true := a.mono _ (by rw [come_i hp, if_pos rfl])
  have kp : ∀ k, ∀ r' ∈ t.w k, r' ∈ (t.wait q (onw (G.objs.getD (ledP G.objs r) obD))).w k := fun k r' hr => by
    rw [wait_w hq]; split
    · rename_i e; subst e; exact List.mem_append_left _ hr
    · exact hr
  refine ⟨fun p h => a.mono p ?_, fun r' hr hl => by rw [List.mem_singleton.1 hr]; exact hu, fun p h1 h2 => ?_, fun k h1 h2 => ?_, fun k h r' hr => kp k r' (a.keep k h r' hr)⟩
  · rw [come_i hp]; split
    · rfl
    · exact h
  · by_cases e : p = ledP G.objs r
    · subst e
      refine ⟨fun e => (by rw [ha] at e; cases e), fun k e => ?_⟩
      rw [ha] at e
      injection e with e
      subst e
      refine ⟨fun h => ?_, fun _ r' hr => ?_⟩
      · have : t.i q = true := h
        rw [hw] at this; cases this
      · rw [wait_w hq, if_pos rfl]; exact List.mem_append_right _ hr
    · obtain ⟨d0, d1⟩ := a.done p h1 (by rw [come_i hp, if_neg e]; exact h2)
      exact ⟨d0, fun k e => ⟨(d1 k e).1, fun h r' hr => kp k r' ((d1 k e).2 h r' hr)⟩⟩
  · by_cases e : k = ledP G.objs r
    · subst e
      exact a.all
    · exact a.old k (by rw [come_i hp, if_neg e]; exact h1) h2
/-- Nothing was come to, nothing waits. -/
def St.none (n : Nat) : St := ⟨List.replicate n false, List.replicate n []⟩
theorem none_i (n p : Nat) : (St.none n).i p = false := by
  show (List.replicate n false).getD p false = false
  rw [List.getD_eq_getElem?_getD, List.getElem?_replicate]; split <;> rfl
theorem none_w (n p : Nat) : (St.none n).w p = [] := by
  show (List.replicate n ([] : List Rf)).getD p [] = []
  rw [List.getD_eq_getElem?_getD, List.getElem?_replicate]; split <;> rfl
theorem none_sound (G : Gr) (n : Nat) : Sound G (St.none n) := ⟨fun p h => (by rw [none_i] at h; cases h), fun q r h => (by rw [none_w] at h; cases h)⟩
/-- What was followed from roots and mourned is what is reached. -/
theorem step_rch {G : Gr} {n : Nat} {t : St} (a : Step G (G.roots ++ G.mourned) (St.none n) t) (hs : Sound G t) (p : Nat) : t.i p = true ↔ Rch G p := by
  refine ⟨hs.i p, fun h => h (fun p => t.i p = true) ⟨fun r h hl => a.all r h hl, fun p ih ha r h hl => (a.done p ih (none_i n p)).1 ha r h hl, fun p q ih ha ih2 r h hl => ((a.done p ih (none_i n p)).2 q ha).1 ih2 r h hl⟩⟩
/-- How many places were not come to. -/
def St.left (s : St) : Nat := s.is.count false
theorem left_come {s : St} {p : Nat} (hp : p < s.is.length) (h : s.i p = false) : (s.come p).left + 1 = s.left := by
  unfold St.left St.come
  have e : s.is[p] = false := by have : s.is.getD p false = false := h; rw [List.getD_eq_getElem?_getD, List.getElem?_eq_getElem hp] at this; exact this
  have h1 : 0 < s.is.count false := by rw [List.count_pos_iff]; rw [← e]; exact List.getElem_mem hp
  rw [List.count_set hp]
  simp [e]
  omega
end Go.Proofs.Ytfajnnibkcnkaal.gr
namespace Go.Proofs.Ytfajnnibkcnkaal.gr
open Go.RowKit rows heads
set_option maxRecDepth 100000
set_option linter.unusedVariables false

/-- The place for which an object with a key waits; -1: none. -/
def awI (os : List Ob) (l : List Rf) : Int := if ledB os (l.getD 0 refD) = true then (ledP os (l.getD 0 refD) : Int) else -1
set_option maxHeartbeats 4000000 in
theorem awaitedBy_any {w : World} {v : Value} {ms : List MO} {os : List Ob} (h : OrowAt w v ms) (hsl : Slices ms) (ea : ms.map MO.abs = os) (hr : Rise os) (hl : ms.length ≤ 1048576) (m : MO) (R : RefsAt w m.sv m.slots) (h1 : 0 < m.slots.length) :
    Calls Try.prog 74 #[v, ov m] w fun e w' => e = .returned (.int .i64 (awI os m.slots)) ∧ Below w.heap.size w w' := by
  obtain ⟨i, c, f, g, sv, sl⟩ := m
  simp only at R h1 ⊢
  obtain ⟨a, cap, rfl, hlc, hcm, _, hc⟩ := R
  obtain ⟨b, off, rfl, hb, hcc⟩ := hc h1
  have x0 := (hcc 0 h1).1
  have x1 := (hcc 0 h1).2
  have B : Below w.heap.size w (w.alloc (ob ⟨i, c, f, g, .slice (some ⟨b, off, none⟩) sl.length cap, sl⟩)) := (Below.refl _ w).alloc (Nat.le_refl _) _
  have y0 := (B.cell (p := ⟨b, off + 0 * 2, none⟩) hb).trans x0
  have y1 := (B.cell (p := ⟨b, off + 0 * 2 + 1, none⟩) hb).trans x1
  have L := ledTo_any (orowAt_below h B) hsl ea hr hl (sl.getD 0 refD)
  obtain ⟨RV, hRV⟩ : ∃ RV, awI os sl = RV := ⟨_, rfl⟩
  rw [hRV]
  have HRV : Hid _ := hRV
  obtain ⟨a', cap', rfl, _⟩ := h
  have HB : Hid _ := B
  have szB := B.size
  rw [show off + 0 * 2 = off by omega] at y0 y1
  clear B hRV hcc hc x0 x1 hb hlc ea hr hl
  unfold awI at HRV
  generalize sl.getD 0 refD = e0 at *
  obtain ⟨ek, en⟩ := e0
  simp only at y0 y1
  cases d : ledB os (ek, en)
  · rw [d] at L
    have ER : Hid (RV = -1) := by show _ = _; rw [← HRV.out, d]; rfl
    clear HRV d
    go_enter Try.func74, Try.ntmps74
    go_wp2_with (go_at_call 70; refine L.mono ?_; rintro e w1 ⟨k, rfl, _, b1⟩; have HB1 : Hid _ := HB.out.trans (b1.mono szB); clear b1 L)
    go_ret
    exact ⟨by rw [ER.out]; rfl, HB1⟩
  · rw [d] at L
    have ER : Hid (RV = ledP os (ek, en)) := by show _ = _; rw [← HRV.out, d, if_pos rfl]
    clear HRV d
    generalize ledP os (ek, en) = pp at *
    go_enter Try.func74, Try.ntmps74
    go_wp2_with (go_at_call 70; refine L.mono ?_; rintro e w1 ⟨k, rfl, hk, b1⟩; obtain rfl := hk rfl; have HB1 : Hid _ := HB.out.trans (b1.mono szB); clear b1 L hk)
    go_ret
    exact ⟨by rw [ER.out]; rfl, HB1⟩

theorem refs_drop {w : World} {b off n cap : Nat} {es : List Rf} (h : RefsAt w (.slice (some ⟨b, off, none⟩) n cap) es) (hn : 0 < n) {a : Option Addr} {cc : Nat} (ha : 1 < n → a = some ⟨b, off + 2, none⟩) (hc : cc = cap - 1) (hz : a = none → cc = 0) : RefsAt w (.slice a (n - 1) cc) (es.drop 1) := by
  obtain ⟨a0, cap0, e, h1, h2, _, h3⟩ := h
  injection e with e1 e2 e3
  subst e1 e2 e3
  obtain ⟨b', off', e4, hb, hc'⟩ := h3 hn
  injection e4 with e4
  injection e4 with e5 e6
  subst e5 e6
  have ht : (es.drop 1).length = es.length - 1 := by simp
  refine ⟨a, cc, by rw [ht], by rw [ht]; omega, by rw [hc]; exact Nat.le_trans (Nat.sub_le _ _) h2, hz, fun hp => ?_⟩
  rw [ht] at hp
  refine ⟨b, off + 2, ha (by omega), hb, fun i hi => ?_⟩
  have hg : (es.drop 1).getD i refD = es.getD (i + 1) refD := by
    rw [List.getD_eq_getElem?_getD, List.getElem?_drop, ← List.getD_eq_getElem?_getD, Nat.add_comm 1 i]
  have := hc' (i + 1) (by omega)
  rw [hg, show off + 2 + i * 2 = off + (i + 1) * 2 by omega]
  exact this

/-- Whom an object waits for, as a number. -/
def awO (os : List Ob) (o : Ob) : Int := if o.fmt = 2 then awI os o.slots else -1
theorem awO_none {os : List Ob} {o : Ob} (h : awt os o = none) : awO os o = -1 := by
  unfold awO awI
  unfold awt at h
  by_cases h2 : o.fmt = 2
  · rw [if_pos h2]
    by_cases h3 : ledB os (o.slots.getD 0 refD) = true
    · rw [if_pos ⟨h2, h3⟩] at h; cases h
    · rw [if_neg h3]
  · rw [if_neg h2]
theorem awO_some {os : List Ob} {o : Ob} {q : Nat} (h : awt os o = some q) : awO os o = q ∧ q < os.length := by
  unfold awO awI
  unfold awt at h
  by_cases h2 : o.fmt = 2 ∧ ledB os (o.slots.getD 0 refD) = true
  · rw [if_pos h2] at h
    injection h with h
    rw [if_pos h2.1, if_pos h2.2, ← h]
    exact ⟨rfl, ledP_lt h2.2⟩
  · rw [if_neg h2] at h; cases h
set_option maxHeartbeats 8000000 in
theorem leadsOn_any {w : World} {v : Value} {ms : List MO} {os : List Ob} (h : OrowAt w v ms) (hsl : Slices ms) (ea : ms.map MO.abs = os) (hr : Rise os) (hl : ms.length ≤ 1048576) (m : MO) (R : RefsAt w m.sv m.slots) (h1 : m.fmt = 2 → 0 < m.slots.length) :
    Calls Try.prog 71 #[v, ov m] w fun e w' => ∃ a n c, e = .returned (.tuple #[.slice a n c, .int .i64 (awO os m.abs)]) ∧ (∀ W, RefsAt W m.sv m.slots → RefsAt W (.slice a n c) (onw m.abs)) ∧ (m.fmt = 2 → ∃ ad, a = some ad) ∧ Below w.heap.size w w' := by
  obtain ⟨i, c, f, g, sv, sl⟩ := m
  simp only at R h1 ⊢
  have HR := R
  obtain ⟨a, cap, rfl, hlc, hcm, _, hc⟩ := R
  have B : Below w.heap.size w (w.alloc (ob ⟨i, c, f, g, .slice a sl.length cap, sl⟩)) := (Below.refl _ w).alloc (Nat.le_refl _) _
  have HB : Hid _ := B
  have szB := B.size
  obtain ⟨a', cap', rfl, q1, q2, q3, q4⟩ := id h
  by_cases h0 : f = 0
  · subst h0
    have ER : Hid (awO os ⟨i, c, 0, g, sl⟩ = -1) := rfl
    have EO : Hid (onw ⟨i, c, 0, g, sl⟩ = sl) := rfl
    clear hc q4
    go_enter Try.func71, Try.ntmps71
    go_wp2
    exact bodyPost_ret (v := .tuple #[.slice a sl.length cap, .int .i64 (-1)]) (by simp [results, Try.results71, go_sem]) rfl ⟨a, sl.length, cap, rfl, fun W hW => hW, fun e => absurd e (by show ¬ (0 : Int) = 2; decide), HB⟩
  · by_cases h2 : f = 2
    · subst h2
      have hp := h1 rfl
      obtain ⟨b, off, rfl, hb, hcc⟩ := hc hp
      have ER : Hid (awO os (MO.abs ⟨i, c, 2, g, .slice (some ⟨b, off, none⟩) sl.length cap, sl⟩) = awI os sl) := rfl
      have EO : Hid (onw (MO.abs ⟨i, c, 2, g, .slice (some ⟨b, off, none⟩) sl.length cap, sl⟩) = sl.drop 1) := rfl
      have HA : Hid (∀ W, Below w.heap.size w W → Calls Try.prog 74 #[.slice a' ms.length cap', ov ⟨i, c, 2, g, .slice (some ⟨b, off, none⟩) sl.length cap, sl⟩] W fun e w' => e = .returned (.int .i64 (awI os sl)) ∧ Below W.heap.size W w') := fun W hW => awaitedBy_any (orowAt_below h hW) hsl ea hr hl _ (refsAt_below HR hW) hp
      have HA2 := HA.out _ (B.drew)
      have HT : Hid (Five (w.alloc (ob ⟨i, c, 2, g, .slice (some ⟨b, off, none⟩) sl.length cap, sl⟩)).drew w.heap.size 51 (.int .i64 i) (.int .i64 c) (.int .i64 2) (.int .i64 g) (.slice (some ⟨b, off, none⟩) sl.length cap)) := five_below (five_new w _ _ _ _ _ _) (Below.refl _ _).drew
      have HBD : Hid (Below w.heap.size w (w.alloc (ob ⟨i, c, 2, g, .slice (some ⟨b, off, none⟩) sl.length cap, sl⟩)).drew) := B.drew
      have hsl1 : (1 : Int) ≤ (sl.length : Int) := by omega
      have hlc' : (sl.length : Int) ≤ cap := by omega
      have hcb : cap ≤ 9223372036854775807 := hcm
      clear hc q4 hcc HA HR h ea hr hl
      generalize awI os sl = aw at *
      clear B szB h1
      by_cases hc1 : cap = 1
      · subst hc1
        obtain ⟨x, rfl⟩ : ∃ x, sl = [x] := by
          match sl, hp, hlc with
          | [x], _, _ => exact ⟨x, rfl⟩
          | _ :: _ :: _, _, h => simp at h
        go_enter Try.func71, Try.ntmps71
        go_wp2_with fail
        go_region_law (go_simp; go_at_call 74; refine HA2.mono ?_; clear HA2; rintro e w1 ⟨rfl, b1⟩; obtain ⟨_, _, _, _, y4, _⟩ := five_cells (five_below HT.out b1); have HB1 : Hid _ := HBD.out.trans (b1.mono HBD.out.size); clear b1 HT)
        all_goals go_wp2
        all_goals exact bodyPost_ret (v := .tuple #[.slice (some ⟨b, off, none⟩) 0 0, .int .i64 aw]) (by simp [results, Try.results71, go_sem]) rfl ⟨some ⟨b, off, none⟩, 0, 0, congrArg (fun z => Ending.returned (.tuple #[.slice (some ⟨b, off, none⟩) 0 0, .int .i64 z])) ER.out.symm, fun W hW => by show RefsAt W _ (List.drop 1 [x]); exact refs_drop hW (by decide) (fun h => absurd h (by decide)) rfl (fun h => by cases h), fun _ => ⟨_, rfl⟩, HB1⟩
      · go_enter Try.func71, Try.ntmps71
        go_wp2_with fail
        go_region_law (go_simp; go_at_call 74; refine HA2.mono ?_; clear HA2; rintro e w1 ⟨rfl, b1⟩; obtain ⟨_, _, _, _, y4, _⟩ := five_cells (five_below HT.out b1); have HB1 : Hid _ := HBD.out.trans (b1.mono HBD.out.size); clear b1 HT)
        all_goals go_wp2
        all_goals exact bodyPost_ret (v := .tuple #[.slice (some ⟨b, off + 2, none⟩) (sl.length - 1) (cap - 1), .int .i64 aw]) (by simp [results, Try.results71, go_sem]) rfl ⟨some ⟨b, off + 2, none⟩, sl.length - 1, cap - 1, by rw [ER.out], fun W hW => by rw [EO.out]; exact refs_drop hW hp (fun h => rfl) rfl (fun h => by cases h), fun _ => ⟨_, rfl⟩, HB1⟩
    · have ER : Hid (awO os (MO.abs ⟨i, c, f, g, .slice a sl.length cap, sl⟩) = -1) := by show _ = _; unfold awO; exact if_neg h2
      have EO : Hid (onw (MO.abs ⟨i, c, f, g, .slice a sl.length cap, sl⟩) = []) := by show _ = _; unfold onw; show (if f = 0 then sl else if f = 2 then sl.drop 1 else []) = []; rw [if_neg h0, if_neg h2]
      have h0' : (f == 0) = false := by simpa using h0
      have h2' : (f == 2) = false := by simpa using h2
      clear hc q4
      go_enter Try.func71, Try.ntmps71
      go_wp2
      exact bodyPost_ret (v := .tuple #[.slice none 0 0, .int .i64 (-1)]) (by simp [results, Try.results71, go_sem]) rfl ⟨none, 0, 0, by rw [ER.out], fun W _ => by rw [EO.out]; exact ⟨none, 0, rfl, Nat.le_refl _, by unfold maxLen; omega, fun _ => rfl, fun h => absurd h (by simp)⟩, fun e => absurd e h2, HB⟩
end Go.Proofs.Ytfajnnibkcnkaal.gr
namespace Go.Proofs.Ytfajnnibkcnkaal.gr
open Go.RowKit rows heads
set_option maxRecDepth 100000
set_option linter.unusedVariables false

abbrev nilS : Value := .slice none 0 0
theorem cell_of {w : World} {b : Nat} {cs : List Value} {t : TypeId} (h : w.heap[b]? = some (.cells cs.toArray t (0, 0))) {i : Nat} {u : Value} (hu : cs[i]? = some u) : w.cell? ⟨b, i, none⟩ = some u := by simp [World.cell?, h, hu]
/-- What is kept: the places come to in Bi, what waits in Bw, each list in a block of its own behind W1. -/
structure RS (W1 : World) (Bi Bw n : Nat) (W : World) (vs : List Value) (s : St) : Prop where
  ch : Ch [Bi, Bw] W1 W
  li : s.is.length = n
  lw : s.wt.length = n
  lv : vs.length = n
  hi : W.heap[Bi]? = some (.cells (s.is.map Value.bool).toArray 4 (0, 0))
  hw : W.heap[Bw]? = some (.cells vs.toArray 30 (0, 0))
  own : ∀ q, q < n → OwnR W W1.heap.size (vs.getD q nilS) (s.w q)
  nd : ∀ q q', q < n → q' < n → q ≠ q' → ∀ k ∈ blk (vs.getD q nilS), k ∉ blk (vs.getD q' nilS)
theorem RS.lo {W1 : World} {Bi Bw n : Nat} {W : World} {vs : List Value} {s : St} (h : RS W1 Bi Bw n W vs s) {q : Nat} (hq : q < n) : ∀ k ∈ blk (vs.getD q nilS), W1.heap.size ≤ k ∧ k < W.heap.size := blk_lt (h.own q hq)
theorem RS.below {W1 : World} {Bi Bw n : Nat} {W W' : World} {vs : List Value} {s : St} (h : RS W1 Bi Bw n W vs s) (b : Below W.heap.size W W') : RS W1 Bi Bw n W' vs s :=
  ⟨h.ch.trans (ch_below b), h.li, h.lw, h.lv, (b.block _ (lt_of_block h.hi)).trans h.hi, (b.block _ (lt_of_block h.hw)).trans h.hw, fun q hq => ownR_below (h.own q hq) b, h.nd⟩
theorem RS.isAt {W1 : World} {Bi Bw n : Nat} {W : World} {vs : List Value} {s : St} (h : RS W1 Bi Bw n W vs s) {p : Nat} (hp : p < n) : W.cell? ⟨Bi, p, none⟩ = some (.bool (s.i p)) := by
  have hl := h.li
  have e : s.is[p]? = some (s.i p) := by
    show _ = some (s.is.getD p false)
    rw [List.getD_eq_getElem?_getD, List.getElem?_eq_getElem (by omega)]
    rfl
  exact cell_of h.hi (by rw [List.getElem?_map, e]; rfl)
theorem RS.waitAt {W1 : World} {Bi Bw n : Nat} {W : World} {vs : List Value} {s : St} (h : RS W1 Bi Bw n W vs s) {p : Nat} (hp : p < n) : W.cell? ⟨Bw, p, none⟩ = some (vs.getD p nilS) := by
  have hl := h.lv
  have e : vs[p]? = some (vs.getD p nilS) := by
    rw [List.getD_eq_getElem?_getD, List.getElem?_eq_getElem (by omega)]
    rfl
  exact cell_of h.hw e
theorem RS.frozI {W1 : World} {Bi Bw n : Nat} {W : World} {vs : List Value} {s : St} (h : RS W1 Bi Bw n W vs s) (p : Nat) : W.frozen? ⟨Bi, p, none⟩ = false := by simp [World.frozen?, h.hi]
theorem RS.frozW {W1 : World} {Bi Bw n : Nat} {W : World} {vs : List Value} {s : St} (h : RS W1 Bi Bw n W vs s) (p : Nat) : W.frozen? ⟨Bw, p, none⟩ = false := by simp [World.frozen?, h.hw]
/-- The blocks that may change. -/
def rset (Bi Bw n : Nat) (vs : List Value) (s : St) : List Nat := Bi :: Bw :: ((List.range n).filter (fun q => !s.i q)).flatMap (fun q => blk (vs.getD q nilS))
theorem mem_rset {Bi Bw n : Nat} {vs : List Value} {s : St} {k : Nat} : k ∈ rset Bi Bw n vs s ↔ k = Bi ∨ k = Bw ∨ ∃ q, q < n ∧ s.i q = false ∧ k ∈ blk (vs.getD q nilS) := by
  unfold rset
  simp only [List.mem_cons, List.mem_flatMap, List.mem_filter, List.mem_range, Bool.not_eq_true']
  constructor
  · rintro (h | h | ⟨q, ⟨h1, h2⟩, h3⟩)
    · exact .inl h
    · exact .inr (.inl h)
    · exact .inr (.inr ⟨q, h1, h2, h3⟩)
  · rintro (h | h | ⟨q, h1, h2, h3⟩)
    · exact .inl h
    · exact .inr (.inl h)
    · exact .inr (.inr ⟨q, ⟨h1, h2⟩, h3⟩)
theorem ch_then {S T : List Nat} {a b c : World} (h : Ch S a b) (k : Ch T b c) (hs : ∀ x ∈ T, x ∈ S ∨ a.heap.size ≤ x) : Ch S a c :=
  ⟨k.os.trans h.os, k.tape.trans h.tape, k.output.trans h.output, Nat.le_trans h.size k.size, fun x hx hn => (k.block x (Nat.lt_of_lt_of_le hx h.size) (fun e => by
    rcases hs x e with e | e
    · exact hn e
    · omega)).trans (h.block x hx hn)⟩
theorem rs_mem {W1 : World} {Bi Bw n : Nat} {W : World} {vs : List Value} {s : St} (h : RS W1 Bi Bw n W vs s) : ∀ k ∈ rset Bi Bw n vs s, k ∈ [Bi, Bw] ∨ W1.heap.size ≤ k := fun k hk => by
  rcases mem_rset.1 hk with e | e | ⟨q, hq, _, e⟩
  · exact .inl (by simp [e])
  · exact .inl (by simp [e])
  · exact .inr (h.lo hq k e).1

/-- A list was followed, in memory too. -/
structure Run (G : Gr) (W1 : World) (Bi Bw n : Nat) (L : List Rf) (W : World) (vs : List Value) (s : St) (W' : World) (vs' : List Value) (s' : St) : Prop where
  rs : RS W1 Bi Bw n W' vs' s'
  st : Step G L s s'
  sd : Sound G s → SoundL G L → Sound G s'
  bd : ∀ C, (∀ q, (s.w q).length + 20 * s.left ≤ C) → ∀ q, (s'.w q).length + 20 * s'.left ≤ C
  lf : s'.left ≤ s.left
  ch : Ch (rset Bi Bw n vs s) W W'
  sh : ∀ q, q < n → s'.i q = false → ∀ k ∈ blk (vs'.getD q nilS), k ∈ blk (vs.getD q nilS) ∨ W.heap.size ≤ k
theorem Run.refl {G : Gr} {W1 : World} {Bi Bw n : Nat} {W : World} {vs : List Value} {s : St} (h : RS W1 Bi Bw n W vs s) : Run G W1 Bi Bw n [] W vs s W vs s :=
  ⟨h, Step.refl s, fun a _ => a, fun _ a => a, Nat.le_refl _, Ch.refl _ _, fun _ _ _ _ hk => .inl hk⟩
theorem Run.below {G : Gr} {W1 : World} {Bi Bw n : Nat} {L : List Rf} {W W' W'' : World} {vs vs' : List Value} {s s' : St} (h : Run G W1 Bi Bw n L W vs s W' vs' s') (b : Below W'.heap.size W' W'') : Run G W1 Bi Bw n L W vs s W'' vs' s' :=
  ⟨h.rs.below b, h.st, h.sd, h.bd, h.lf, h.ch.trans (ch_below b), h.sh⟩
theorem Run.ahead {G : Gr} {W1 : World} {Bi Bw n : Nat} {L : List Rf} {W W' W'' : World} {vs vs' : List Value} {s s' : St} (b : Below W.heap.size W W'') (h : Run G W1 Bi Bw n L W'' vs s W' vs' s') : Run G W1 Bi Bw n L W vs s W' vs' s' :=
  ⟨h.rs, h.st, h.sd, h.bd, h.lf, (ch_below b).trans h.ch, fun q hq hs k hk => (h.sh q hq hs k hk).imp_right (fun e => Nat.le_trans b.size e)⟩
theorem step_false {G : Gr} {L : List Rf} {s t : St} (h : Step G L s t) {q : Nat} (hq : t.i q = false) : s.i q = false := by
  cases e : s.i q
  · rfl
  · rw [h.mono q e] at hq; cases hq
theorem Run.trans {G : Gr} {W1 : World} {Bi Bw n : Nat} {L M : List Rf} {W W' W'' : World} {vs vs' vs'' : List Value} {s s' s'' : St} (a : Run G W1 Bi Bw n L W vs s W' vs' s') (b : Run G W1 Bi Bw n M W' vs' s' W'' vs'' s'') : Run G W1 Bi Bw n (L ++ M) W vs s W'' vs'' s'' := by
  refine ⟨b.rs, a.st.trans b.st, fun h1 h2 => b.sd (a.sd h1 fun r hr => h2 r (List.mem_append_left _ hr)) fun r hr => h2 r (List.mem_append_right _ hr), fun C h => b.bd C (a.bd C h), Nat.le_trans b.lf a.lf, ch_then a.ch b.ch fun x hx => ?_, fun q hq hs k hk => ?_⟩
  · rcases mem_rset.1 hx with e | e | ⟨q, hq, hs, e⟩
    · exact .inl (mem_rset.2 (.inl e))
    · exact .inl (mem_rset.2 (.inr (.inl e)))
    · rcases a.sh q hq hs x e with e | e
      · exact .inl (mem_rset.2 (.inr (.inr ⟨q, hq, step_false a.st hs, e⟩)))
      · exact .inr e
  · rcases b.sh q hq hs k hk with e | e
    · exact a.sh q hq (step_false b.st hs) k e
    · exact .inr (Nat.le_trans a.ch.size e)
theorem Run.no {G : Gr} {W1 : World} {Bi Bw n : Nat} {W : World} {vs : List Value} {s : St} {r : Rf} (h : RS W1 Bi Bw n W vs s) (hr : ledB G.objs r = true → s.i (ledP G.objs r) = true) : Run G W1 Bi Bw n [r] W vs s W vs s :=
  ⟨h, step_no hr, fun a _ => a, fun _ a => a, Nat.le_refl _, Ch.refl _ _, fun _ _ _ _ hk => .inl hk⟩
/-- A place is come to. -/
theorem RS.come {W1 : World} {Bi Bw n : Nat} {W : World} {vs : List Value} {s : St} (h : RS W1 Bi Bw n W vs s) (hBi : Bi < W1.heap.size) (hne : Bi ≠ Bw) (p : Nat) : RS W1 Bi Bw n (W.setCell ⟨Bi, p, none⟩ (.bool true)) vs (s.come p) ∧ Ch (rset Bi Bw n vs s) W (W.setCell ⟨Bi, p, none⟩ (.bool true)) := by
  have c : Ch [Bi] W (W.setCell ⟨Bi, p, none⟩ (.bool true)) := one_ch W Bi p _
  refine ⟨⟨h.ch.trans (c.mono (by simp)), by simp [St.come, h.li], h.lw, h.lv, ?_, ?_, fun q hq => row_ch (h.own q hq) c fun k hk => ?_, h.nd⟩, c.mono (fun k hk => mem_rset.2 (.inl (by simpa using hk)))⟩
  · rw [cells_setCell h.hi]
    simp [St.come]
  · exact (c.block Bw (lt_of_block h.hw) (by simpa using fun e => hne e.symm)).trans h.hw
  · have := (h.lo hq k hk).1
    simp only [List.mem_singleton]
    omega
/-- The list that waits for a place that was come to may be read whatever is followed. -/
theorem RS.keeps {W1 : World} {Bi Bw n : Nat} {W : World} {vs : List Value} {s : St} (h : RS W1 Bi Bw n W vs s) (hBi : Bi < W1.heap.size) (hBw : Bw < W1.heap.size) {p : Nat} (hp : p < n) (hi : s.i p = true) : ∀ W', Ch (rset Bi Bw n vs s) W W' → RefsAt W' (vs.getD p nilS) (s.w p) := fun W' c => ownR_refs (row_ch (h.own p hp) c fun k hk e => by
  have := (h.lo hp k hk).1
  rcases mem_rset.1 e with e | e | ⟨q, hq, hs, e⟩
  · omega
  · omega
  · by_cases e' : q = p
    · subst e'; rw [hi] at hs; cases hs
    · exact h.nd p q hp hq (fun e => e' e.symm) k hk e)
theorem bd_come {s : St} {p : Nat} (hp : p < s.is.length) (hn : s.i p = false) {C : Nat} (h : ∀ q, (s.w q).length + 20 * s.left ≤ C) : ∀ q, ((s.come p).w q).length + 20 * (s.come p).left ≤ C - 20 := fun q => by
  have h1 := left_come hp hn
  have h2 := h q
  have h3 : (s.come p).w q = s.w q := rfl
  rw [h3]
  omega
theorem bd_ge {s : St} {p : Nat} (hp : p < s.is.length) (hn : s.i p = false) {C : Nat} (h : ∀ q, (s.w q).length + 20 * s.left ≤ C) : 20 ≤ C := by
  have h1 := left_come hp hn
  have h2 := h 0
  omega
theorem come_w {s : St} {p : Nat} (q : Nat) : (s.come p).w q = s.w q := rfl
theorem run_go {G : Gr} {W1 : World} {Bi Bw n : Nat} {W Wa W2 W3 : World} {vs vs2 vs3 : List Value} {s s2 s3 : St} {r : Rf} (h : RS W1 Bi Bw n W vs s) (hl : ledB G.objs r = true) (hn : s.i (ledP G.objs r) = false) (hp : ledP G.objs r < n)
    (hc : Ch (rset Bi Bw n vs s) W Wa)
    (a : Run G W1 Bi Bw n (s.w (ledP G.objs r)) Wa vs (s.come (ledP G.objs r)) W2 vs2 s2) (b : Run G W1 Bi Bw n (onw (G.objs.getD (ledP G.objs r) obD)) W2 vs2 s2 W3 vs3 s3)
    (hw : ∀ q, awt G.objs (G.objs.getD (ledP G.objs r) obD) = some q → s2.i q = true) : Run G W1 Bi Bw n [r] W vs s W3 vs3 s3 := by
  have hp' : ledP G.objs r < s.is.length := by rw [h.li]; exact hp
  have c := a.trans b
  have ci : ∀ q, (s.come (ledP G.objs r)).i q = false → s.i q = false := fun q hq => by
    rw [come_i hp'] at hq
    split at hq
    · cases hq
    · exact hq
  refine ⟨c.rs, step_go hn hp' a.st b.st hw, fun h1 h2 => ?_, fun C hC => ?_, ?_, ch_then hc c.ch fun x hx => ?_, fun q hq hs k hk => ?_⟩
  · have hr : Rch G (ledP G.objs r) := h2 r (by simp) hl
    have s1 := a.sd (sound_come h1 hp' hr) fun r' hr' hl' => h1.w _ r' hr' hr hl'
    refine b.sd s1 fun r' hr' hl' => ?_
    cases ha : awt G.objs (G.objs.getD (ledP G.objs r) obD) with
    | none => exact Rch.on0 _ hr ha r' hr' hl'
    | some q => exact Rch.on1 _ q hr ha (s1.i q (hw q ha)) r' hr' hl'
  · have h3 := c.bd (C - 20) (bd_come hp' hn hC)
    intro q
    have := h3 q
    omega
  · have := left_come hp' hn
    have := c.lf
    omega
  · rcases mem_rset.1 hx with e | e | ⟨q, hq, hs, e⟩
    · exact .inl (mem_rset.2 (.inl e))
    · exact .inl (mem_rset.2 (.inr (.inl e)))
    · exact .inl (mem_rset.2 (.inr (.inr ⟨q, hq, ci q hs, e⟩)))
  · rcases c.sh q hq hs k hk with e | e
    · exact .inl e
    · exact .inr (Nat.le_trans hc.size e)
/-- Refs wait. -/
theorem RS.wait {W1 : World} {Bi Bw n : Nat} {W w2 : World} {vs : List Value} {s : St} (h : RS W1 Bi Bw n W vs s) (hBi : Bi < W1.heap.size) (hBw : Bw < W1.heap.size) (hne : Bi ≠ Bw) {q : Nat} (hq : q < n) (l : List Rf) {v' : Value}
    (hown : w2.ownsRow W1.heap.size 80 2 v' ((s.w q).length + l.length) (cellsR (s.w q) ++ cellsR l)) (hg : W.grownBy w2 (vs.getD q nilS).ownBlock) (hat : v'.ownBlock = (vs.getD q nilS).ownBlock ∨ v'.ownBlock = some W.heap.size) :
    Ch [Bi, Bw] W1 w2 ∧ w2.cell? ⟨Bw, q, none⟩ = some (vs.getD q nilS) ∧ w2.frozen? ⟨Bw, q, none⟩ = false ∧ RS W1 Bi Bw n (w2.setCell ⟨Bw, q, none⟩ v') (vs.set q v') (s.wait q l) ∧ (∀ k ∈ blk v', k ∈ blk (vs.getD q nilS) ∨ W.heap.size ≤ k) ∧ (s.i q = false → Ch (rset Bi Bw n vs s) W (w2.setCell ⟨Bw, q, none⟩ v')) := by
  have c1 : Ch (blk (vs.getD q nilS)) W w2 := ch_grown hg
  have hlo := h.lo hq
  have nB : ∀ k, k < W1.heap.size → k ∉ blk (vs.getD q nilS) := fun k hk e => by have := (hlo k e).1; omega
  have hbw2 : w2.heap[Bw]? = some (.cells vs.toArray 30 (0, 0)) := (c1.block Bw (lt_of_block h.hw) (nB Bw hBw)).trans h.hw
  have hbi2 : w2.heap[Bi]? = some (.cells (s.is.map Value.bool).toArray 4 (0, 0)) := (c1.block Bi (lt_of_block h.hi) (nB Bi hBi)).trans h.hi
  have c2 : Ch [Bw] w2 (w2.setCell ⟨Bw, q, none⟩ v') := one_ch w2 Bw q _
  have hnew : ∀ k ∈ blk v', k ∈ blk (vs.getD q nilS) ∨ W.heap.size ≤ k := fun k hk => by
    unfold blk at hk ⊢
    rcases hat with e | e
    · rw [e] at hk; exact .inl hk
    · rw [e] at hk; simp at hk; exact .inr (by omega)
  have gv : ∀ k, (vs.set q v').getD k nilS = if k = q then v' else vs.getD k nilS := fun k => by
    have := h.lv
    rw [List.getD_eq_getElem?_getD, List.getElem?_set]
    by_cases e : q = k
    · subst e; rw [if_pos rfl, if_pos (show q < vs.length by omega), if_pos rfl]; rfl
    · rw [if_neg e, if_neg (fun e' => e e'.symm), ← List.getD_eq_getElem?_getD]
  have hlq := h.lv
  refine ⟨ch_then h.ch (c1.mono (T := blk (vs.getD q nilS)) fun _ e => e) fun x hx => .inr (hlo x hx).1, by
      have e : vs[q]? = some (vs.getD q nilS) := by
        rw [List.getD_eq_getElem?_getD, List.getElem?_eq_getElem (by omega)]
        rfl
      exact cell_of hbw2 e, by simp [World.frozen?, hbw2], ⟨?_, h.li, by simp [St.wait, h.lw], by simp [h.lv], ?_, ?_, fun k hk => ?_, fun k k' hk hk' hkk x hx => ?_⟩, hnew, fun hiq => ?_⟩
  · refine (ch_then h.ch (c1.mono (T := blk (vs.getD q nilS)) fun _ e => e) fun x hx => .inr (hlo x hx).1).trans (c2.mono (by simp))
  · exact (c2.block Bi (lt_of_block hbi2) (by simpa using hne)).trans hbi2
  · rw [cells_setCell hbw2]
    simp
  · rw [gv, wait_w (by rw [h.lw]; exact hq)]
    split
    · have e : OwnR w2 W1.heap.size v' (s.w q ++ l) := by
        unfold OwnR
        rw [List.length_append, cellsR_append]
        exact hown
      exact row_ch e c2 fun x hx => by
        rcases hnew x hx with e | e
        · have := (hlo x e).1; simp; omega
        · have := h.ch.size; simp; omega
    · rename_i e
      have o1 : OwnR w2 W1.heap.size (vs.getD k nilS) (s.w k) := row_ch (h.own k hk) c1 fun x hx => h.nd k q hk hq e x hx
      exact row_ch o1 c2 fun x hx => by have := (h.lo hk x hx).1; simp; omega
  · rw [gv] at hx ⊢
    by_cases e : k = q
    · subst e
      rw [if_pos rfl] at hx
      rw [if_neg (fun e => hkk e.symm)]
      rcases hnew x hx with e | e
      · exact h.nd k k' hk hk' hkk x e
      · intro e'; have := (h.lo hk' x e').2; omega
    · rw [if_neg e] at hx
      by_cases e2 : k' = q
      · subst e2
        rw [if_pos rfl]
        intro e'
        rcases hnew x e' with e3 | e3
        · exact h.nd k k' hk hk' hkk x hx e3
        · have := (h.lo hk x hx).2; omega
      · rw [if_neg e2]
        exact h.nd k k' hk hk' hkk x hx
  · exact (c1.mono fun k hk => mem_rset.2 (.inr (.inr ⟨q, hq, hiq, hk⟩))).trans (c2.mono fun k hk => mem_rset.2 (.inr (.inl (by simpa using hk))))
theorem run_wait {G : Gr} {W1 : World} {Bi Bw n : Nat} {W Wa W2 W3 : World} {vs vs2 : List Value} {v' : Value} {s s2 : St} {r : Rf} {q : Nat} (h : RS W1 Bi Bw n W vs s) (hl : ledB G.objs r = true) (hn : s.i (ledP G.objs r) = false) (hp : ledP G.objs r < n)
    (hc : Ch (rset Bi Bw n vs s) W Wa)
    (a : Run G W1 Bi Bw n (s.w (ledP G.objs r)) Wa vs (s.come (ledP G.objs r)) W2 vs2 s2) (hq : q < n) (ha : awt G.objs (G.objs.getD (ledP G.objs r) obD) = some q) (hw : s2.i q = false) (h20 : (onw (G.objs.getD (ledP G.objs r) obD)).length ≤ 20)
    (hR : RS W1 Bi Bw n W3 (vs2.set q v') (s2.wait q (onw (G.objs.getD (ledP G.objs r) obD)))) (hC : Ch (rset Bi Bw n vs2 s2) W2 W3) (hv : ∀ k ∈ blk v', k ∈ blk (vs2.getD q nilS) ∨ W2.heap.size ≤ k) :
    Run G W1 Bi Bw n [r] W vs s W3 (vs2.set q v') (s2.wait q (onw (G.objs.getD (ledP G.objs r) obD))) := by
  have hp' : ledP G.objs r < s.is.length := by rw [h.li]; exact hp
  have hq' : q < s2.wt.length := by rw [a.rs.lw]; exact hq
  have ci : ∀ q, (s.come (ledP G.objs r)).i q = false → s.i q = false := fun q hq => by
    rw [come_i hp'] at hq
    split at hq
    · cases hq
    · exact hq
  have gv : ∀ k, (vs2.set q v').getD k nilS = if k = q then v' else vs2.getD k nilS := fun k => by
    have := a.rs.lv
    rw [List.getD_eq_getElem?_getD, List.getElem?_set]
    by_cases e : q = k
    · subst e; rw [if_pos rfl, if_pos (show q < vs2.length by omega), if_pos rfl]; rfl
    · rw [if_neg e, if_neg (fun e' => e e'.symm), ← List.getD_eq_getElem?_getD]
  refine ⟨hR, step_wait hn hp' a.st hq' ha hw, fun h1 h2 => ?_, fun C hC => ?_, ?_, ch_then hc (ch_then a.ch hC fun x hx => ?_) fun x hx => ?_, fun k hk hs x hx => ?_⟩
  · have hr : Rch G (ledP G.objs r) := h2 r (by simp) hl
    exact sound_wait (a.sd (sound_come h1 hp' hr) fun r' hr' hl' => h1.w _ r' hr' hr hl') hq' hr ha
  · have h3 := a.bd (C - 20) (bd_come hp' hn hC)
    have h4 := bd_ge hp' hn hC
    intro k
    have h5 := h3 k
    have e : (s2.wait q (onw (G.objs.getD (ledP G.objs r) obD))).left = s2.left := rfl
    rw [wait_w hq', e]
    split
    · rename_i e; subst e; rw [List.length_append]; omega
    · omega
  · have := left_come hp' hn
    have := a.lf
    show s2.left ≤ _
    omega
  · rcases mem_rset.1 hx with e | e | ⟨k, hk, hs, e⟩
    · exact .inl (mem_rset.2 (.inl e))
    · exact .inl (mem_rset.2 (.inr (.inl e)))
    · rcases a.sh k hk hs x e with e | e
      · exact .inl (mem_rset.2 (.inr (.inr ⟨k, hk, step_false a.st hs, e⟩)))
      · exact .inr e
  · rcases mem_rset.1 hx with e | e | ⟨k, hk, hs, e⟩
    · exact .inl (mem_rset.2 (.inl e))
    · exact .inl (mem_rset.2 (.inr (.inl e)))
    · exact .inl (mem_rset.2 (.inr (.inr ⟨k, hk, ci k hs, e⟩)))
  · rw [gv] at hx
    have hs2 : s2.i k = false := hs
    split at hx
    · rename_i e
      subst e
      rcases hv x hx with e | e
      · rcases a.sh k hk hs2 x e with e | e
        · exact .inl e
        · exact .inr (Nat.le_trans hc.size e)
      · exact .inr (Nat.le_trans hc.size (Nat.le_trans a.ch.size e))
    · rcases a.sh k hk hs2 x hx with e | e
      · exact .inl e
      · exact .inr (Nat.le_trans hc.size e)
end Go.Proofs.Ytfajnnibkcnkaal.gr
namespace Go.Proofs.Ytfajnnibkcnkaal.gr
open Go.RowKit rows
set_option maxRecDepth 100000

theorem refs_news {w : World} {ad : Addr} {n cap : Nat} {es : List Rf} (h : RefsAt w (.slice (some ad) n cap) es) : ∀ j u, (cellsR es)[j]? = some u → w.cell? (ad.add j) = some u := by
  intro j u hj
  obtain ⟨a', cap', e, _, _, _, hc⟩ := h
  injection e with e1 e2 e3
  subst e1
  have hlt : j < es.length * 2 := by
    have := (List.getElem?_eq_some_iff.1 hj).1
    rw [cellsR_length] at this
    exact this
  obtain ⟨b, off, e1, _, hcc⟩ := hc (by omega)
  injection e1 with e1
  subst e1
  have hc := hcc (j / 2) (by omega)
  have ca := cellsR_at es (j / 2) (by omega)
  have hadd : (⟨b, off, none⟩ : Addr).add j = ⟨b, off + j, none⟩ := by unfold Addr.add; split <;> simp_all
  rw [hadd]
  rcases Nat.mod_two_eq_zero_or_one j with hm | hm
  · have ej : j = j / 2 * 2 := by omega
    rw [← ej] at hc ca
    rw [ca.1] at hj
    rw [← hj]
    exact hc.1
  · have ej : j = j / 2 * 2 + 1 := by omega
    have e2 : off + j = off + j / 2 * 2 + 1 := by omega
    rw [← ej] at ca
    rw [ca.2] at hj
    rw [← hj, e2]
    exact hc.2
theorem refs_len {w : World} {a : Option Addr} {n cap : Nat} {es : List Rf} (h : RefsAt w (.slice a n cap) es) : es.length = n ∧ (a = none → n = 0) := by
  obtain ⟨a', cap', e, h1, _, h2, _⟩ := h
  injection e with e1 e2 e3
  subst e1 e2 e3
  exact ⟨rfl, fun ha => by have := h2 ha; omega⟩
theorem src_refs {w : World} {a : Option Addr} {n cap : Nat} {es : List Rf} (h : RefsAt w (.slice a n cap) es) : Src Try.prog 2 30 (.slice a n cap) n (cellsR es) w := by
  obtain ⟨hl, hz⟩ := refs_len h
  cases a with
  | none =>
    have hn := hz rfl
    have e : es = [] := List.eq_nil_of_length_eq_zero (by omega)
    subst e hn
    exact ⟨.inl ⟨_, Try.underlying30⟩, fun w' => by simp [Builtin.lenOf], by simp [Builtin.firstCells, cellsR], by simp [Builtin.firstCells, cellsR], by simp [cellsR], fun u hu => by simp [cellsR] at hu⟩
  | some ad =>
    have hc : (cellsR es).length = n * 2 := by rw [cellsR_length, hl]
    exact ⟨.inl ⟨_, Try.underlying30⟩, fun w' => by simp [Builtin.lenOf], run_firstCells_some w 2 n ad n cap (cellsR es) hc (refs_news h), run_firstCells_some w.drew 2 n ad n cap (cellsR es) hc (refs_news (w := w.drew) h), hc, cellsR_one es⟩

/-- Onto an empty list of no room. -/
theorem run_app0 {w : World} {g : Nat} {a : Option Addr} {n cap : Nat} {es : List Rf} (h : RefsAt w (.slice a n cap) es) (hl : n ≤ 1048576) (hg : w.heap[g]? = some (.cells #[] 80 (0, 0))) (ty : TypeId) :
    ∃ (q c : Nat) (w' : World), (Builtin.append_ #[30, 30] ty #[.slice (some ⟨g, 0, none⟩) 0 0, .slice a n cap]).run Try.prog w = .ok (.slice (some ⟨q, 0, none⟩) n c) w' ∧ (q = g ∨ w.heap.size ≤ q) ∧ (∀ base, base ≤ q → OwnR w' base (.slice (some ⟨q, 0, none⟩) n c) es) ∧ Below w.heap.size w w' := by
  obtain ⟨i0, hi, hz0, hz1, hz2⟩ := info_parts infoR
  have S := src_refs h
  obtain ⟨hlen, _⟩ := refs_len h
  have ho : ∀ {w' : World} {q c base : Nat} (cur : Array Value), base ≤ q → w'.heap[q]? = some (.cells cur 80 (0, 0)) → n ≤ c → c ≤ maxLen → cur.size = c * 2 → cur.toList.take (n * 2) = cellsR es → OwnR w' base (.slice (some ⟨q, 0, none⟩) n c) es := by
    intro w' q c base cur h1 h2 h3 h4 h5 h6
    unfold OwnR
    rw [hlen]
    exact ⟨by rw [cellsR_length, hlen], .inr ⟨q, c, cur, rfl, h1, h2, h3, h4, h5, h6⟩⟩
  rcases Nat.eq_zero_or_pos n with h0 | hp
  · subst h0
    have e : es = [] := List.eq_nil_of_length_eq_zero hlen
    subst e
    have hr := run_append_nothing w 30 30 ty 80 i0 Try.underlying30 hi (some ⟨g, 0, none⟩) 0 0 (Nat.le_refl _) (.slice a 0 cap) (by rw [hz1]; exact S)
    exact ⟨g, 0, w, hr, .inl rfl, fun base hb => ho #[] hb hg (Nat.le_refl _) (by decide) rfl rfl, Below.refl _ _⟩
  · have hold : (Builtin.firstCells i0.size 0 (.slice (some ⟨g, 0, none⟩) 0 0)).run Try.prog w.drew = .ok ([] : List Value).toArray w.drew := run_firstCells_some w.drew i0.size 0 ⟨g, 0, none⟩ 0 0 [] (by simp) (fun j v hj => by simp at hj)
    have hr := run_append_grow_src w 30 30 ty 80 i0 (.agg #[.int .i64 0, .int .i64 0]) Try.underlying30 hi hz0 (some ⟨g, 0, none⟩) 0 0 [] hold (.slice a n cap) n (cellsR es) (by rw [hz1]; exact S) (by omega) (by omega) (by rw [hz2]; exact growslice_fits (by omega) (by omega))
    have hge := grownCap_ge w (0 + n) 0 80
    have hcm : grownCap w (0 + n) 0 80 ≤ maxLen := grownCap_le_maxLen w (0 + n) 0 80 (by unfold maxLen; omega)
    rw [Nat.zero_add] at hr hge hcm
    refine ⟨w.heap.size, _, _, hr, .inr (Nat.le_refl _), fun base hb => ho _ hb (heap_alloc_new w.drew _) hge hcm ?_ ?_, ⟨rfl, rfl, rfl, by simp, fun j hj => Below.heap_alloc w.drew _ j hj⟩⟩
    · simp [Builtin.zeroCells, Value.cells, cellsR_length, hlen]
      omega
    · simp only [List.nil_append, Array.toList_append]
      exact List.take_left' (by rw [cellsR_length, hlen])
end Go.Proofs.Ytfajnnibkcnkaal.gr
