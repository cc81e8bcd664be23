/-
  Chapter 6: right graphs stay right, whatever is made, stored, fetched, put or copied.
  Made from the template GraphK.
-/
import Derived.Test.YthldaifnlnbpgaaGraphISlot
import Derived.Test.YthldaifnlnbpgaaM2
namespace Go.Proofs.Ythldaifnlnbpgaa.gr
open Go.RowKit rows heads
set_option maxRecDepth 100000

structure Right (G : Gr) : Prop where
  head : gHead G = true
  ob : ∀ i, i < G.objs.length → obOk G.objs G.next i = true
  sl : ∀ i, i < G.objs.length → ∀ k, k < (G.objs.getD i obD).slots.length → refOk G.objs ((G.objs.getD i obD).slots.getD k refD) = true
  root : ∀ i, i < 6 → refOk G.objs (G.roots.getD i refD) = true
  mo : ∀ i, i < G.mourned.length → (G.mourned.getD i refD).1 = 2 ∧ refOk G.objs (G.mourned.getD i refD) = true
theorem right_of {G : Gr} (h : gOk G = true) : Right G := by
  unfold gOk at h
  simp only [Bool.and_eq_true, List.all_eq_true, List.mem_range] at h
  obtain ⟨⟨⟨h0, h1⟩, h2⟩, h3⟩ := h
  refine ⟨h0, fun i hi => (h1 i hi).1, fun i hi k hk => ?_, h2, fun i hi => ?_⟩
  · have := (h1 i hi).2
    unfold slOk at this
    rw [List.all_eq_true] at this
    exact this k (List.mem_range.2 hk)
  · have := h3 i hi
    simpa using this
theorem Right.gOk {G : Gr} (h : Right G) : gOk G = true := by
  refine gOk_yes h.head (fun i hi => ?_) h.root (fun i hi => ?_)
  · rw [h.ob i hi, slOk_yes (h.sl i hi)]
    rfl
  · have := h.mo i hi
    rw [this.1, this.2]
    rfl
theorem atI_map (os : List Ob) (id : Int) : atI os id = match (os.map Ob.id).findIdx? (fun o => o == id) with | some i => (i : Int) | none => -1 := by
  unfold atI
  rw [List.findIdx?_map]
  rfl
theorem atI_ids {os os' : List Ob} (h : os.map Ob.id = os'.map Ob.id) (id : Int) : atI os id = atI os' id := by rw [atI_map, atI_map, h]
theorem refOk_ids {os os' : List Ob} (h : os.map Ob.id = os'.map Ob.id) (r : Rf) : refOk os r = refOk os' r := by unfold refOk; rw [atI_ids h]
theorem atI_app {os : List Ob} {id : Int} (h : 0 ≤ atI os id) (ys : List Ob) : atI (os ++ ys) id = atI os id := by
  unfold atI at h ⊢
  rw [List.findIdx?_append]
  cases e : os.findIdx? (fun o => o.id == id) with
  | none => rw [e] at h; simp at h
  | some i => rfl
theorem refOk_app {os : List Ob} {r : Rf} (h : refOk os r = true) (ys : List Ob) : refOk (os ++ ys) r = true := by
  unfold refOk at h ⊢
  split
  · rename_i e; rw [if_pos e] at h; exact h
  · rename_i e
    rw [if_neg e] at h
    split
    · rename_i e'; rw [if_pos e'] at h; exact h
    · rename_i e'
      rw [if_neg e'] at h
      simp only [Bool.and_eq_true, decide_eq_true_eq] at h ⊢
      rw [atI_app h.2]
      exact h
theorem atI_new {os : List Ob} {n : Ob} (h : ∀ m, m < os.length → ¬ (os.getD m obD).id = n.id) : atI (os ++ [n]) n.id = os.length := by
  refine atI_at (by simp) (by simp) (fun m hm => ?_)
  have := h m hm
  rw [List.getD_eq_getElem?_getD, List.getElem?_append_left hm, ← List.getD_eq_getElem?_getD]
  exact this
theorem getD_app_l {os ys : List Ob} {i : Nat} (hi : i < os.length) : (os ++ ys).getD i obD = os.getD i obD := by
  rw [List.getD_eq_getElem?_getD, List.getElem?_append_left hi, ← List.getD_eq_getElem?_getD]
theorem obOk_lt {os : List Ob} {next : Int} {i : Nat} (h : obOk os next i = true) : lastOf os i < (os.getD i obD).id ∧ (os.getD i obD).id < next ∧ (os.getD i obD).fmt ≤ 2 ∧ hok ((os.getD i obD).slots.length : Int) (os.getD i obD).fmt (os.getD i obD).cls (os.getD i obD).hash false false = true := by
  simp only [obOk, Bool.and_eq_true, decide_eq_true_eq] at h
  exact ⟨h.1.1.1, h.1.1.2, h.1.2, h.2⟩
theorem obOk_mk {os : List Ob} {next : Int} {i : Nat} (h : lastOf os i < (os.getD i obD).id ∧ (os.getD i obD).id < next ∧ (os.getD i obD).fmt ≤ 2 ∧ hok ((os.getD i obD).slots.length : Int) (os.getD i obD).fmt (os.getD i obD).cls (os.getD i obD).hash false false = true) : obOk os next i = true := by
  simp only [obOk, Bool.and_eq_true, decide_eq_true_eq]
  exact ⟨⟨⟨h.1, h.2.1⟩, h.2.2.1⟩, h.2.2.2⟩
theorem lastOf_lt {os : List Ob} {next : Int} (h1 : 1 ≤ next) (h : ∀ i, i < os.length → obOk os next i = true) : ∀ i, i ≤ os.length → lastOf os i < next
  | 0, _ => by show (0 : Int) < next; omega
  | i + 1, hi => (obOk_lt (h i (by omega))).2.1
theorem lastOf_app (os ys : List Ob) : ∀ i, i ≤ os.length → lastOf (os ++ ys) i = lastOf os i
  | 0, _ => rfl
  | i + 1, hi => by
    show ((os ++ ys).getD i obD).id = (os.getD i obD).id
    rw [getD_app_l (by omega)]
theorem hok_hash {s f c h : Int} (e : hok s f c 0 false false = true) (hf : f ≤ 2) (h0 : 0 ≤ h) (h1 : h ≤ 65535) : hok s f c h false false = true := by
  have h6 : ¬ f = 6 := by omega
  unfold hok at e ⊢
  rw [if_neg h6] at e ⊢
  simp only [Bool.and_eq_true] at e ⊢
  refine ⟨e.1, ?_⟩
  simp [inR]
  omega
theorem drawn_in (s : Int) : 0 ≤ drawn s ∧ drawn s ≤ 65535 := by unfold drawn; omega
theorem newOk_parts {c f s : Int} (h : newOk c f s = true) : 0 ≤ s ∧ s ≤ 20 ∧ 0 ≤ f ∧ f ≤ 2 ∧ hok s f c 0 false false = true := by
  unfold newOk at h
  simp only [Bool.and_eq_true] at h
  have h1 := hok_true h.2
  have h2 : 0 ≤ f ∧ f ≤ 2 := by simpa [inR] using h.1
  exact ⟨h1.1, h1.2.1, h2.1, h2.2, h.2⟩
theorem made_cases (G : Gr) (x c f s : Int) : made G x c f s = (G, false) ∨ (inR 0 5 x = true ∧ newOk c f s = true ∧ G.objs.length ≠ 200 ∧ G.next ≠ 100000 ∧ made G x c f s = (⟨G.objs ++ [⟨G.next, c, f, drawn G.seed, List.replicate s.toNat refD⟩], G.roots.set x.toNat (2, G.next), G.mourned, G.next + 1, drawn G.seed⟩, true)) := by
  unfold made
  split
  · rename_i h
    simp only [Bool.and_eq_true, decide_eq_true_eq] at h
    exact .inr ⟨h.1.1, h.1.2, h.2.1, h.2.2, rfl⟩
  · exact .inl rfl
theorem getD_set_refs (rs : List Rf) (k i : Nat) (e : Rf) : (rs.set k e).getD i refD = if k = i ∧ i < rs.length then e else rs.getD i refD := by
  rw [List.getD_eq_getElem?_getD, List.getElem?_set, List.getD_eq_getElem?_getD]
  by_cases h : k = i
  · subst h
    by_cases h2 : k < rs.length
    · simp [h2]
    · simp [h2]
  · simp [h]
theorem ids_ne {G : Gr} (h : Right G) {i : Nat} (hi : i < G.objs.length) : ¬ (G.objs.getD i obD).id = G.next := by
  have := (obOk_lt (h.ob i hi)).2.1
  omega
theorem head_parts {G : Gr} (h : gHead G = true) : G.objs.length ≤ 200 ∧ G.roots.length = 6 ∧ G.mourned.length ≤ 40 ∧ 1 ≤ G.next ∧ G.next ≤ 100000 ∧ 0 ≤ G.seed ∧ G.seed ≤ 65535 := by
  simp only [gHead, inR, Bool.and_eq_true, decide_eq_true_eq] at h
  omega
theorem head_mk {G : Gr} (h : G.objs.length ≤ 200 ∧ G.roots.length = 6 ∧ G.mourned.length ≤ 40 ∧ 1 ≤ G.next ∧ G.next ≤ 100000 ∧ 0 ≤ G.seed ∧ G.seed ≤ 65535) : gHead G = true := by
  simp only [gHead, inR, Bool.and_eq_true, decide_eq_true_eq]
  omega
theorem right_root {G : Gr} (h : Right G) (k : Nat) {e : Rf} (he : refOk G.objs e = true) : Right { G with roots := G.roots.set k e } := by
  have hp := head_parts h.head
  refine ⟨head_mk (by simpa using hp), h.ob, h.sl, fun i hi => ?_, h.mo⟩
  show refOk G.objs ((G.roots.set k e).getD i refD) = true
  rw [getD_set_refs]
  split
  · exact he
  · exact h.root i hi
theorem right_made {G : Gr} (h : Right G) (x c f s : Int) : Right (made G x c f s).1 := by
  rcases made_cases G x c f s with e | ⟨hx, hn, hl, hN, e⟩ <;> rw [e]
  · exact h
  have hp := head_parts h.head
  have hx' : 0 ≤ x ∧ x ≤ 5 := by simpa [inR] using hx
  obtain ⟨s0, s1, f0, f1, hk⟩ := newOk_parts hn
  have hd := drawn_in G.seed
  have hnew := atI_new (os := G.objs) (n := ⟨G.next, c, f, drawn G.seed, List.replicate s.toNat refD⟩) (fun m hm => ids_ne h hm)
  refine ⟨head_mk ?_, fun i hi => ?_, fun i hi k hk' => ?_, fun i hi => ?_, fun i hi => ?_⟩
  · simp only [List.length_append, List.length_set, List.length_cons, List.length_nil]
    omega
  · simp only [List.length_append, List.length_cons, List.length_nil] at hi
    by_cases h2 : i < G.objs.length
    · have := obOk_lt (h.ob i h2)
      refine obOk_mk ?_
      show lastOf (G.objs ++ _) i < ((G.objs ++ _).getD i obD).id ∧ ((G.objs ++ _).getD i obD).id < G.next + 1 ∧ ((G.objs ++ _).getD i obD).fmt ≤ 2 ∧ _
      rw [lastOf_app _ _ i (by omega), getD_app_l h2]
      exact ⟨this.1, by omega, this.2.2⟩
    · have h3 : i = G.objs.length := by omega
      subst h3
      refine obOk_mk ?_
      show lastOf (G.objs ++ _) _ < ((G.objs ++ _).getD _ obD).id ∧ ((G.objs ++ _).getD _ obD).id < G.next + 1 ∧ ((G.objs ++ _).getD _ obD).fmt ≤ 2 ∧ _
      rw [lastOf_app _ _ _ (Nat.le_refl _)]
      have := lastOf_lt hp.2.2.2.1 h.ob _ (Nat.le_refl _)
      simp
      refine ⟨this, by omega, by omega, ?_⟩
      have e1 : max s 0 = s := by omega
      rw [e1]
      exact hok_hash hk f1 hd.1 hd.2
  · simp only [List.length_append, List.length_cons, List.length_nil] at hi
    show refOk (G.objs ++ _) (((G.objs ++ _).getD i obD).slots.getD k refD) = true
    by_cases h2 : i < G.objs.length
    · rw [getD_app_l h2]
      refine refOk_app (h.sl i h2 k ?_) _
      have : k < ((G.objs ++ _).getD i obD).slots.length := hk'
      rwa [getD_app_l h2] at this
    · have h3 : i = G.objs.length := by omega
      subst h3
      have e2 : (List.replicate s.toNat refD).getD k refD = refD := by
        rw [List.getD_eq_getElem?_getD, List.getElem?_replicate]
        split <;> rfl
      have e3 : (G.objs ++ [(⟨G.next, c, f, drawn G.seed, List.replicate s.toNat refD⟩ : Ob)]).getD G.objs.length obD = ⟨G.next, c, f, drawn G.seed, List.replicate s.toNat refD⟩ := by simp
      rw [e3]
      show refOk _ ((List.replicate s.toNat refD).getD k refD) = true
      rw [e2]
      rfl
  · show refOk (G.objs ++ _) ((G.roots.set x.toNat (2, G.next)).getD i refD) = true
    rw [getD_set_refs]
    split
    · unfold refOk
      simp only [show ¬ (2 : Int) = 0 by decide, show ¬ (2 : Int) = 1 by decide, if_false]
      have e1 : atI (G.objs ++ [⟨G.next, c, f, drawn G.seed, List.replicate s.toNat refD⟩]) G.next = G.objs.length := hnew
      rw [e1]
      simp
    · exact refOk_app (h.root i hi) _
  · have := h.mo i hi
    exact ⟨this.1, refOk_app this.2 _⟩
theorem slotIn_parts {G : Gr} (h : Right G) {x s : Int} (hs : slotIn G x s = true) : 0 ≤ x ∧ x ≤ 5 ∧ (rootAt G x).1 = 2 ∧ plc G x < G.objs.length ∧ 0 ≤ s ∧ s.toNat < (G.objs.getD (plc G x) obD).slots.length := by
  simp only [slotIn, Bool.and_eq_true, decide_eq_true_eq, beq_iff_eq] at hs
  obtain ⟨⟨h1, h2⟩, h3, h4⟩ := hs
  have h1' : 0 ≤ x ∧ x ≤ 5 := by simpa [inR] using h1
  have := (leads_plc h.gOk (x := x) (by unfold leads; rw [h1, h2]; rfl)).2
  exact ⟨h1'.1, h1'.2, h2, this, h3, by omega⟩
theorem right_fetch {G : Gr} (h : Right G) (t f s : Int) : Right (fetch G t f s).1 := by
  unfold fetch
  split
  · rename_i hc
    rw [Bool.and_eq_true] at hc
    have p := slotIn_parts h hc.2
    exact right_root h _ (h.sl _ p.2.2.2.1 _ p.2.2.2.2.2)
  · exact h
theorem right_copyRoot {G : Gr} (h : Right G) (t f : Int) : Right (copyRoot G t f).1 := by
  unfold copyRoot
  split
  · rename_i hc
    rw [Bool.and_eq_true] at hc
    have p : 0 ≤ f ∧ f ≤ 5 := by simpa [inR] using hc.2
    exact right_root h _ (h.root _ (by omega))
  · exact h
theorem right_putR {G : Gr} (h : Right G) (x : Int) (e : Rf) : Right (putR G x e).1 := by
  unfold putR
  split
  · rename_i hc
    simp only [Bool.and_eq_true] at hc
    exact right_root h _ hc.2.2
  · exact h
theorem setSlot_ids (os : List Ob) (k j : Nat) (e : Rf) : (setSlot os k j e).map Ob.id = os.map Ob.id := by
  unfold setSlot
  by_cases h : k < os.length
  · refine List.ext_getElem (by simp) (fun i h1 h2 => ?_)
    simp only [List.getElem_map, List.getElem_set]
    split
    · rename_i e1
      subst e1
      rw [List.getD_eq_getElem?_getD, List.getElem?_eq_getElem h]
      rfl
    · rfl
  · rw [List.set_eq_of_length_le (by omega)]
theorem setSlot_getD {os : List Ob} {k : Nat} (hk : k < os.length) (j : Nat) (e : Rf) (i : Nat) : (setSlot os k j e).getD i obD = if i = k then { os.getD k obD with slots := (os.getD k obD).slots.set j e } else os.getD i obD := by
  unfold setSlot
  rw [List.getD_eq_getElem?_getD, List.getElem?_set]
  by_cases h : k = i
  · subst h
    simp [hk]
  · have h' : ¬ i = k := fun e => h e.symm
    simp only [h, h', if_false]
    rw [← List.getD_eq_getElem?_getD]
theorem lastOf_setSlot {os : List Ob} {k : Nat} (hk : k < os.length) (j : Nat) (e : Rf) : ∀ i, lastOf (setSlot os k j e) i = lastOf os i
  | 0 => rfl
  | i + 1 => by
    show ((setSlot os k j e).getD i obD).id = (os.getD i obD).id
    rw [setSlot_getD hk]
    split
    · rename_i e1; subst e1; rfl
    · rfl
theorem right_setSlot {G : Gr} (h : Right G) {k : Nat} (hk : k < G.objs.length) (j : Nat) {e : Rf} (he : refOk G.objs e = true) : Right { G with objs := setSlot G.objs k j e } := by
  have hp := head_parts h.head
  have hids := setSlot_ids G.objs k j e
  have hlen : (setSlot G.objs k j e).length = G.objs.length := by simp [setSlot]
  refine ⟨head_mk (by simpa [hlen] using hp), fun i hi => obOk_mk ?_, fun i hi n hn => ?_, fun i hi => ?_, fun i hi => ?_⟩
  · have hi' : i < G.objs.length := by rw [← hlen]; exact hi
    have := obOk_lt (h.ob i hi')
    show lastOf (setSlot G.objs k j e) i < ((setSlot G.objs k j e).getD i obD).id ∧ ((setSlot G.objs k j e).getD i obD).id < G.next ∧ ((setSlot G.objs k j e).getD i obD).fmt ≤ 2 ∧ hok (((setSlot G.objs k j e).getD i obD).slots.length : Int) ((setSlot G.objs k j e).getD i obD).fmt ((setSlot G.objs k j e).getD i obD).cls ((setSlot G.objs k j e).getD i obD).hash false false = true
    rw [lastOf_setSlot hk, setSlot_getD hk]
    split
    · rename_i e1
      subst e1
      simpa using this
    · exact this
  · have hi' : i < G.objs.length := by rw [← hlen]; exact hi
    have hn' : n < ((setSlot G.objs k j e).getD i obD).slots.length := hn
    show refOk (setSlot G.objs k j e) (((setSlot G.objs k j e).getD i obD).slots.getD n refD) = true
    rw [refOk_ids hids]
    rw [setSlot_getD hk] at hn' ⊢
    split at hn'
    · rename_i e1
      subst e1
      rw [if_pos rfl]
      rw [getD_set_refs]
      split
      · exact he
      · exact h.sl _ hi' n (by simpa using hn')
    · rename_i e1
      rw [if_neg e1]
      exact h.sl i hi' n hn'
  · show refOk (setSlot G.objs k j e) (G.roots.getD i refD) = true
    rw [refOk_ids hids]
    exact h.root i hi
  · have := h.mo i hi
    refine ⟨this.1, ?_⟩
    show refOk (setSlot G.objs k j e) (G.mourned.getD i refD) = true
    rw [refOk_ids hids]
    exact this.2
theorem right_store {G : Gr} (h : Right G) (t s f : Int) : Right (store G t s f).1 := by
  unfold store
  split
  · rename_i hc
    rw [Bool.and_eq_true] at hc
    have p := slotIn_parts h hc.2
    have pf : 0 ≤ f ∧ f ≤ 5 := by simpa [inR] using hc.1
    exact right_setSlot h p.2.2.2.1 _ (h.root _ (by omega))
  · exact h
/-- What was stored is fetched, and nothing is changed thereby. -/
theorem fetch_store {G : Gr} (h : Right G) {t s f : Int} (hs : (store G t s f).2 = true) : fetch (store G t s f).1 f t s = ((store G t s f).1, true) := by
  have hc : (inR 0 5 f && slotIn G t s) = true := by
    cases d : (inR 0 5 f && slotIn G t s)
    · unfold store at hs; rw [d] at hs; cases hs
    · rfl
  have e : store G t s f = ({ G with objs := setSlot G.objs (plc G t) s.toNat (rootAt G f) }, true) := by unfold store; rw [if_pos hc]
  rw [e]
  rw [Bool.and_eq_true] at hc
  have p := slotIn_parts h hc.2
  have pf : 0 ≤ f ∧ f ≤ 5 := by simpa [inR] using hc.1
  have ep : plc { G with objs := setSlot G.objs (plc G t) s.toNat (rootAt G f) } t = plc G t := by
    unfold plc
    show (atI (setSlot G.objs _ _ _) (rootAt G t).2).toNat = _
    rw [atI_ids (setSlot_ids _ _ _ _)]
  have eg : (setSlot G.objs (plc G t) s.toNat (rootAt G f)).getD (plc G t) obD = { G.objs.getD (plc G t) obD with slots := (G.objs.getD (plc G t) obD).slots.set s.toNat (rootAt G f) } := by
    rw [setSlot_getD p.2.2.2.1, if_pos rfl]
  have hsl : slotIn { G with objs := setSlot G.objs (plc G t) s.toNat (rootAt G f) } t s = true := by
    unfold slotIn
    rw [ep]
    show (inR 0 5 t && (rootAt G t).1 == 2 && (decide (0 ≤ s) && decide (s < ((setSlot G.objs (plc G t) s.toNat (rootAt G f)).getD (plc G t) obD).slots.length))) = true
    rw [eg]
    have := hc.2
    unfold slotIn at this
    simpa using this
  unfold fetch
  rw [hc.1, hsl, ep]
  show (({ objs := setSlot G.objs (plc G t) s.toNat (rootAt G f), roots := G.roots.set f.toNat (((setSlot G.objs (plc G t) s.toNat (rootAt G f)).getD (plc G t) obD).slots.getD s.toNat refD), mourned := G.mourned, next := G.next, seed := G.seed } : Gr), true) = _
  rw [eg]
  have e3 : ((G.objs.getD (plc G t) obD).slots.set s.toNat (rootAt G f)).getD s.toNat refD = rootAt G f := by
    rw [getD_set_refs, if_pos ⟨rfl, p.2.2.2.2.2⟩]
  have e4 : G.roots.set f.toNat (rootAt G f) = G.roots := by
    have hl := (head_parts h.head).2.1
    have hf : f.toNat < G.roots.length := by omega
    unfold rootAt
    rw [List.getD_eq_getElem?_getD, List.getElem?_eq_getElem hf]
    exact List.set_getElem_self hf
  simp only [e3, e4]
/-- Right graphs are small. -/
theorem slotsOf_le : ∀ (os : List Ob), (∀ i, i < os.length → (os.getD i obD).slots.length ≤ 20) → slotsOf os ≤ 20 * os.length
  | [], _ => by simp [slotsOf]
  | o :: os, h => by
    have h0 := h 0 (by simp)
    have := slotsOf_le os (fun i hi => by have := h (i + 1) (by simp; omega); simpa using this)
    simp only [slotsOf, List.length_cons]
    simp at h0
    omega
theorem right_small {G : Gr} (h : Right G) : Small G := by
  intro rs er
  have hp := head_parts h.head
  have l1 : rs.length = G.objs.length := by rw [← er]; simp
  have l2 : slotsLen rs = slotsOf G.objs := by rw [slotsOf_abs, er]
  have l3 := slotsOf_le G.objs (fun i hi => by have := (hok_true (obOk_lt (h.ob i hi)).2.2.2).2.1; omega)
  unfold gSize
  omega
theorem hR_GMade (G : Gr) (x c f s : Int) (_ : ∃ ms : List MO, ms.map MO.abs = G.objs ∧ gSize ms G ≤ 1048576) : Small (gMade G x c f s).1 := by
  unfold gMade
  split
  · rename_i hk
    exact right_small (right_made (right_of hk) x c f s)
  · exact small_zero
/-- The new one is at its root. -/
theorem hash_made {G : Gr} (h : Right G) {x c f s : Int} (hm : (made G x c f s).2 = true) : gHash (made G x c f s).1 x = drawn G.seed := by
  rcases made_cases G x c f s with e | ⟨hx, hn, hl, hN, e⟩
  · rw [e] at hm; cases hm
  have hr := right_made h x c f s
  have hp := head_parts h.head
  have hx' : 0 ≤ x ∧ x ≤ 5 := by simpa [inR] using hx
  have hnew := atI_new (os := G.objs) (n := ⟨G.next, c, f, drawn G.seed, List.replicate s.toNat refD⟩) (fun m hm => ids_ne h hm)
  rw [e] at hr ⊢
  have e1 : rootAt { objs := G.objs ++ [⟨G.next, c, f, drawn G.seed, List.replicate s.toNat refD⟩], roots := G.roots.set x.toNat (2, G.next), mourned := G.mourned, next := G.next + 1, seed := drawn G.seed : Gr } x = (2, G.next) := by
    show (G.roots.set x.toNat (2, G.next)).getD x.toNat refD = _
    rw [getD_set_refs, if_pos ⟨rfl, by omega⟩]
  unfold gHash
  rw [if_pos hr.gOk]
  unfold hashAt
  rw [e1, hx, if_pos (show (true && ((2, G.next) : Rf).1 == 2) = true from rfl)]
  have e2 : atI (G.objs ++ [⟨G.next, c, f, drawn G.seed, List.replicate s.toNat refD⟩]) G.next = G.objs.length := hnew
  show ((G.objs ++ [_]).getD (atI (G.objs ++ [_]) G.next).toNat obD).hash = _
  rw [e2]
  simp
end Go.Proofs.Ythldaifnlnbpgaa.gr
