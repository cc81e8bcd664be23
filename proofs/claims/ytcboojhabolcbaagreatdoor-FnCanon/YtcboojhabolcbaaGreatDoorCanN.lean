/-
  Chapter 6: a graph's text stays when every Id is moved and a lonely object is added; it changes with a root.
  Made from the template CanN.
-/
import Derived.Test.YtcboojhabolcbaaGreatDoorM8
namespace Go.Proofs.YtcboojhabolcbaaGreatDoor.gr
open Go.RowKit rows heads
set_option maxRecDepth 100000
set_option linter.unusedVariables false

/-- A ref whose Id is moved by n. -/
def shR (n : Int) (r : Rf) : Rf := if r.1 = 2 then (r.1, r.2 + n) else r
def shOb (n : Int) (o : Ob) : Ob := { o with id := o.id + n, slots := o.slots.map (shR n) }
/-- A graph whose Ids are moved by n, a lonely object behind it. -/
def shG (n : Int) (G : Gr) : Gr := ⟨G.objs.map (shOb n) ++ [⟨G.next + n + 4, 0, 0, 0, []⟩], G.roots.map (shR n), G.mourned.map (shR n), G.next + n + 5, G.seed⟩
theorem shR_refD (n : Int) : shR n refD = refD := rfl
theorem shR_getD (n : Int) (l : List Rf) (i : Nat) : (l.map (shR n)).getD i refD = shR n (l.getD i refD) := by
  rw [List.getD_eq_getElem?_getD, List.getD_eq_getElem?_getD, List.getElem?_map]
  cases l[i]? <;> rfl
theorem shR_kind (n : Int) (r : Rf) : (shR n r).1 = r.1 := by unfold shR; split <;> rfl
theorem atI_sh (os : List Ob) (n id : Int) : atI (os.map (shOb n)) (id + n) = atI os id := by
  unfold atI
  rw [List.findIdx?_map]
  have : ((fun o : Ob => o.id == id + n) ∘ shOb n) = (fun o : Ob => o.id == id) := by
    funext o
    show (o.id + n == id + n) = (o.id == id)
    rw [Bool.eq_iff_iff, beq_iff_eq, beq_iff_eq]
    omega
  rw [this]
theorem atI_shA {os : List Ob} {id : Int} (n : Int) (h : 0 ≤ atI os id) (ys : List Ob) : atI (os.map (shOb n) ++ ys) (id + n) = atI os id := by
  rw [atI_app (by rw [atI_sh]; exact h), atI_sh]
theorem get_sh {os : List Ob} (n : Int) (ys : List Ob) {i : Nat} (hi : i < os.length) : (os.map (shOb n) ++ ys).getD i obD = shOb n (os.getD i obD) := by
  rw [getD_app_l (by simpa using hi), List.getD_eq_getElem?_getD, List.getD_eq_getElem?_getD, List.getElem?_map, List.getElem?_eq_getElem hi]
  rfl
theorem slotsI_sh {os : List Ob} {id : Int} (n : Int) (h : 0 ≤ atI os id) (ys : List Ob) : slotsI (os.map (shOb n) ++ ys) (id + n) = (slotsI os id).map (shR n) := by
  unfold slotsI
  rw [atI_shA n h, get_sh n ys (atI_is h).1]
  rfl
theorem mem_sh {o : List Int} {x n : Int} : x + n ∈ o.map (· + n) ↔ x ∈ o := by
  rw [List.mem_map]
  constructor
  · rintro ⟨y, hy, e⟩
    have : y = x := by omega
    exact this ▸ hy
  · exact fun h => ⟨x, h, rfl⟩
theorem seeO_sh (o : List Int) (r : Rf) (n : Int) : seeO (o.map (· + n)) (shR n r) = (seeO o r).map (· + n) := by
  unfold seeO
  by_cases h : r.1 = 2
  · have e : shR n r = (r.1, r.2 + n) := if_pos h
    rw [e]
    by_cases hm : r.2 ∈ o
    · rw [if_neg (fun c => c.2 (mem_sh.2 hm)), if_neg (fun c => c.2 hm)]
    · rw [if_pos ⟨h, fun c => hm (mem_sh.1 c)⟩, if_pos ⟨h, hm⟩, List.map_append]
      rfl
  · rw [if_neg (fun c => h (by rw [← shR_kind n r]; exact c.1)), if_neg (fun c => h c.1)]
theorem seeR_sh (n : Int) : ∀ (rs : List Rf) (o : List Int), seeR (o.map (· + n)) (rs.map (shR n)) = (seeR o rs).map (· + n)
  | [], _ => rfl
  | r :: rs, o => by
    show seeR (seeO (o.map (· + n)) (shR n r)) (rs.map (shR n)) = _
    rw [seeO_sh, seeR_sh n rs (seeO o r)]
    rfl
theorem ordF_sh {G : Gr} (h : Right G) (n : Int) (ys : List Ob) : ∀ (f k : Nat) (o : List Int), f + k = G.objs.length + 1 → OrdAt G k o → ∀ f', f ≤ f' → ordF (G.objs.map (shOb n) ++ ys) f' k (o.map (· + n)) = (ordF G.objs f k o).map (· + n)
  | 0, k, o, hf, H, f', _ => by
    have := idsO_len H.ids
    have := H.at_
    omega
  | f + 1, k, o, hf, H, f', hle => by
    obtain ⟨g, rfl⟩ : ∃ g, f' = g + 1 := ⟨f' - 1, by omega⟩
    by_cases hk : k < o.length
    · have hm : o.getD k 0 ∈ o := by
        rw [List.getD_eq_getElem?_getD, List.getElem?_eq_getElem hk]
        exact List.getElem_mem hk
      rw [ordF_next (by simpa using hk), ordF_next hk]
      have e : (o.map (· + n)).getD k 0 = o.getD k 0 + n := by
        rw [List.getD_eq_getElem?_getD, List.getD_eq_getElem?_getD, List.getElem?_map, List.getElem?_eq_getElem hk]
        rfl
      rw [e, slotsI_sh n (H.ids.2 _ hm), seeR_sh]
      exact ordF_sh h n ys f (k + 1) _ (by omega) (H.next h hk) g (by omega)
    · rw [ordF_end (by simpa using hk), ordF_end hk]
theorem ordG_sh {G : Gr} (h : Right G) (n : Int) : ordG (shG n G) = (ordG G).map (· + n) := by
  unfold ordG shG
  simp only
  rw [← List.map_append, show ([] : List Int) = ([] : List Int).map (· + n) from rfl, seeR_sh]
  exact ordF_sh h n _ _ 0 _ (by omega) (ordAt_start h) _ (by simp)
theorem idxOf_sh (n x : Int) : ∀ o : List Int, (o.map (· + n)).idxOf (x + n) = o.idxOf x
  | [] => rfl
  | a :: o => by
    rw [List.map_cons, List.idxOf_cons, List.idxOf_cons, idxOf_sh n x o]
    have : (a + n == x + n) = (a == x) := by
      rw [Bool.eq_iff_iff, beq_iff_eq, beq_iff_eq]
      omega
    rw [this]
theorem refOk_kind {os : List Ob} {r : Rf} (h : refOk os r = true) : r.1 = 0 ∨ r.1 = 1 ∨ r.1 = 2 := by
  unfold refOk at h
  by_cases h0 : r.1 = 0
  · exact .inl h0
  · by_cases h1 : r.1 = 1
    · exact .inr (.inl h1)
    · rw [if_neg h0, if_neg h1] at h
      simp only [Bool.and_eq_true, beq_iff_eq] at h
      exact .inr (.inr h.1)
theorem wordT_sh {os : List Ob} {r : Rf} (h : refOk os r = true) (o : List Int) (n : Int) : wordT (o.map (· + n)) (shR n r) = wordT o r := by
  unfold wordT
  rw [shR_kind]
  rcases refOk_kind h with e | e | e
  · rw [if_pos e, if_pos e]
  · rw [if_neg (by omega), if_pos e, if_neg (by omega), if_pos e]
    unfold shR
    rw [if_neg (by omega)]
  · rw [if_neg (by omega), if_neg (by omega), if_neg (by omega), if_neg (by omega)]
    unfold shR
    rw [if_pos e]
    unfold numO
    rw [idxOf_sh]
theorem words_sh {os : List Ob} (o : List Int) (n : Int) : ∀ {rs : List Rf}, (∀ r ∈ rs, refOk os r = true) → (rs.map (shR n)).map (wordT (o.map (· + n))) = rs.map (wordT o)
  | [], _ => rfl
  | r :: rs, h => by
    rw [List.map_cons, List.map_cons, List.map_cons, wordT_sh (h r (List.mem_cons_self ..)), words_sh (os := os) o n (fun a ha => h a (List.mem_cons_of_mem _ ha))]
theorem objT_sh {G : Gr} (h : Right G) (n : Int) (ys : List Ob) (o : List Int) {id : Int} (hid : 0 ≤ atI G.objs id) : objT (G.objs.map (shOb n) ++ ys) (o.map (· + n)) (id + n) = objT G.objs o id := by
  unfold objT
  rw [slotsI_sh n hid, words_sh o n (h.lead_slot hid), atI_shA n hid, get_sh n ys (atI_is hid).1]
  rfl
/-- The text stays. -/
theorem canT_sh {G : Gr} (h : Right G) (n : Int) : canT (shG n G) = canT G := by
  unfold canT
  rw [ordG_sh h]
  have e1 : ((shG n G).roots ++ (shG n G).mourned).map (wordT ((ordG G).map (· + n))) = (G.roots ++ G.mourned).map (wordT (ordG G)) := by
    show (G.roots.map (shR n) ++ G.mourned.map (shR n)).map _ = _
    rw [← List.map_append]
    exact words_sh _ n h.lead_root
  rw [e1, List.map_map]
  congr 2
  refine List.map_congr_left fun x hx => ?_
  exact objT_sh h n _ _ ((ordG_facts h).1.2 x hx)
theorem refOk_sh {os : List Ob} {r : Rf} (n : Int) (h : refOk os r = true) (ys : List Ob) : refOk (os.map (shOb n) ++ ys) (shR n r) = true := by
  unfold shR
  by_cases e : r.1 = 2
  · rw [if_pos e]
    have h0 := refOk_lead h e
    unfold refOk
    simp only
    rw [if_neg (by omega), if_neg (by omega), atI_shA n h0]
    simp [e, h0]
  · rw [if_neg e]
    unfold refOk at h ⊢
    by_cases e0 : r.1 = 0
    · rwa [if_pos e0] at h ⊢
    · by_cases e1 : r.1 = 1
      · rw [if_neg e0, if_pos e1] at h ⊢
        exact h
      · rw [if_neg e0, if_neg e1] at h
        simp only [Bool.and_eq_true, beq_iff_eq] at h
        exact absurd h.1 e
theorem lastOf_sh {os : List Ob} (n : Int) (h0 : 0 ≤ n) (ys : List Ob) : ∀ i, i ≤ os.length → lastOf (os.map (shOb n) ++ ys) i = if i = 0 then 0 else lastOf os i + n
  | 0, _ => rfl
  | i + 1, hi => by
    show ((os.map (shOb n) ++ ys).getD i obD).id = _
    rw [get_sh n ys (by omega), if_neg (by omega)]
    rfl
/-- It stays right. -/
theorem right_sh {G : Gr} (h : Right G) {n : Int} (h0 : 0 ≤ n) (hn : G.next + n + 5 ≤ 100000) (hl : G.objs.length ≤ 199) : Right (shG n G) := by
  obtain ⟨p1, p2, p3, p4, p5, p6, p7⟩ := head_parts h.head
  have hlen : (shG n G).objs.length = G.objs.length + 1 := by simp [shG]
  have last : (shG n G).objs.getD G.objs.length obD = ⟨G.next + n + 4, 0, 0, 0, []⟩ := by
    show (G.objs.map (shOb n) ++ [_]).getD _ _ = _
    rw [List.getD_eq_getElem?_getD, List.getElem?_append_right (by simp)]
    simp
  have lt := lastOf_lt p4 h.ob
  refine right_of ?_
  unfold gOk
  have H1 : gHead (shG n G) = true := head_mk ⟨by omega, by simp [shG, p2], by simpa [shG] using p3, by show 1 ≤ G.next + n + 5; omega, hn, p6, p7⟩
  have H2 : (List.range (shG n G).objs.length).all (fun i => obOk (shG n G).objs (shG n G).next i && slOk (shG n G).objs i) = true := by
    rw [List.all_eq_true]
    intro i hi
    rw [List.mem_range, hlen] at hi
    rw [Bool.and_eq_true]
    by_cases e : i = G.objs.length
    · subst e
      refine ⟨obOk_mk ?_, ?_⟩
      · rw [last]
        refine ⟨?_, ?_, (by show (0 : Int) ≤ 2; decide), (by show hok ((0 : Nat) : Int) 0 0 0 false false = true; decide)⟩
        · show lastOf (G.objs.map (shOb n) ++ _) _ < G.next + n + 4
          rw [lastOf_sh n h0 _ _ (Nat.le_refl _)]
          have := lt _ (Nat.le_refl _)
          split <;> omega
        · show G.next + n + 4 < G.next + n + 5
          omega
      · unfold slOk
        rw [last]
        rfl
    · have hi' : i < G.objs.length := by omega
      obtain ⟨q1, q2, q3, q4⟩ := obOk_lt (h.ob i hi')
      have g : (shG n G).objs.getD i obD = shOb n (G.objs.getD i obD) := get_sh n _ hi'
      refine ⟨obOk_mk ?_, ?_⟩
      · rw [g]
        refine ⟨?_, ?_, q3, ?_⟩
        · show lastOf (G.objs.map (shOb n) ++ _) _ < (G.objs.getD i obD).id + n
          rw [lastOf_sh n h0 _ _ (by omega)]
          split
          · rename_i e0
            subst e0
            have : (0 : Int) < (G.objs.getD 0 obD).id := q1
            omega
          · omega
        · show (G.objs.getD i obD).id + n < G.next + n + 5
          omega
        · show hok ((((G.objs.getD i obD).slots.map (shR n)).length : Nat) : Int) _ _ _ _ _ = true
          rw [List.length_map]
          exact q4
      · unfold slOk
        rw [g, List.all_eq_true]
        intro k hk
        rw [List.mem_range] at hk
        have hk' : k < (G.objs.getD i obD).slots.length := by simpa [shOb] using hk
        show refOk (G.objs.map (shOb n) ++ _) (((G.objs.getD i obD).slots.map (shR n)).getD k refD) = true
        rw [shR_getD]
        exact refOk_sh n (h.sl i hi' k hk') _
  have H3 : (List.range 6).all (fun i => refOk (shG n G).objs ((shG n G).roots.getD i refD)) = true := by
    rw [List.all_eq_true]
    intro i hi
    rw [List.mem_range] at hi
    show refOk (G.objs.map (shOb n) ++ _) ((G.roots.map (shR n)).getD i refD) = true
    rw [shR_getD]
    exact refOk_sh n (h.root i hi) _
  have H4 : (List.range (shG n G).mourned.length).all (fun i => ((shG n G).mourned.getD i refD).1 == 2 && refOk (shG n G).objs ((shG n G).mourned.getD i refD)) = true := by
    rw [List.all_eq_true]
    intro i hi
    rw [List.mem_range] at hi
    have hi' : i < G.mourned.length := by simpa [shG] using hi
    show (((G.mourned.map (shR n)).getD i refD).1 == 2 && refOk (G.objs.map (shOb n) ++ _) ((G.mourned.map (shR n)).getD i refD)) = true
    rw [shR_getD, shR_kind, refOk_sh n (h.mo i hi').2 _, (h.mo i hi').1]
    rfl
  rw [H1, H2, H3, H4]
  rfl

/-- A text up to its first x. -/
theorem uptoX {x : UInt8} : ∀ {a b s t : List UInt8}, ¬ x ∈ a → ¬ x ∈ b → a ++ x :: s = b ++ x :: t → a = b ∧ s = t
  | [], [], s, t, _, _, e => ⟨rfl, by injection e⟩
  | [], b :: l, s, t, _, hb, e => by
    injection e with e1 e2
    exact absurd (by rw [e1]; exact List.mem_cons_self ..) hb
  | a :: l, [], s, t, ha, _, e => by
    injection e with e1 e2
    exact absurd (by rw [← e1]; exact List.mem_cons_self ..) ha
  | a :: l, b :: l', s, t, ha, hb, e => by
    injection e with e1 e2
    obtain ⟨h1, h2⟩ := uptoX (fun h => ha (List.mem_cons_of_mem _ h)) (fun h => hb (List.mem_cons_of_mem _ h)) e2
    exact ⟨by rw [e1, h1], h2⟩
theorem joinT_inj : ∀ {ws vs : List (List UInt8)}, ws.length = vs.length → (∀ a ∈ ws, ¬ (32 : UInt8) ∈ a) → (∀ a ∈ vs, ¬ (32 : UInt8) ∈ a) → joinT ws = joinT vs → ws = vs
  | [], [], _, _, _, _ => rfl
  | [a], [b], _, _, _, e => by
    have : a = b := e
    rw [this]
  | a :: b :: ws, c :: d :: vs, hl, h1, h2, e => by
    have e : a ++ 32 :: joinT (b :: ws) = c ++ 32 :: joinT (d :: vs) := e
    obtain ⟨e1, e2⟩ := uptoX (h1 a (List.mem_cons_self ..)) (h2 c (List.mem_cons_self ..)) e
    rw [e1, joinT_inj (by simpa using hl) (fun x hx => h1 x (List.mem_cons_of_mem _ hx)) (fun x hx => h2 x (List.mem_cons_of_mem _ hx)) e2]
  | [], _ :: _, hl, _, _, _ => by simp at hl
  | _ :: _, [], hl, _, _, _ => by simp at hl
  | [_], _ :: _ :: _, hl, _, _, _ => by simp at hl
  | _ :: _ :: _, [_], hl, _, _, _ => by simp at hl
theorem joinT_mem {x : UInt8} (hx : x ≠ 32) : ∀ {ws : List (List UInt8)}, (∀ a ∈ ws, ¬ x ∈ a) → ¬ x ∈ joinT ws
  | [], _ => by simp [joinT]
  | [a], h => h a (List.mem_cons_self ..)
  | a :: b :: ws, h => by
    show ¬ x ∈ a ++ 32 :: joinT (b :: ws)
    rw [List.mem_append, List.mem_cons]
    rintro (c | c | c)
    · exact h a (List.mem_cons_self ..) c
    · exact hx c
    · exact joinT_mem hx (fun y hy => h y (List.mem_cons_of_mem _ hy)) c
theorem dec_in (u : Nat) : ∀ c ∈ Lib.decDigits u, 48 ≤ c.toNat ∧ c.toNat ≤ 57 := by
  induction u using Nat.strongRecOn with
  | _ u ih =>
    intro c hc
    rw [Lib.decDigits] at hc
    by_cases h : u < 10
    · rw [dif_pos h, List.mem_singleton] at hc
      subst hc
      simp
      omega
    · rw [dif_neg h] at hc
      rcases List.mem_append.1 hc with hc | hc
      · exact ih (u / 10) (by omega) c hc
      · rw [List.mem_singleton] at hc
        subst hc
        simp
        omega
theorem itoa_in (n : Int) : ∀ c ∈ Lib.itoa n, 45 ≤ c.toNat ∧ c.toNat ≤ 57 := by
  intro c hc
  rw [itoa_abs] at hc
  split at hc
  · rcases List.mem_cons.1 hc with rfl | hc
    · decide
    · have := dec_in _ c hc; omega
  · have := dec_in _ c hc; omega
theorem wordT_in (o : List Int) (r : Rf) : ∀ c ∈ wordT o r, 45 ≤ c.toNat := by
  intro c hc
  unfold wordT at hc
  split at hc
  · rw [List.mem_singleton] at hc; subst hc; decide
  · split at hc
    · rcases List.mem_append.1 hc with hc | hc
      · exact (itoa_in _ c hc).1
      · rw [List.mem_singleton] at hc; subst hc; decide
    · rcases List.mem_append.1 hc with hc | hc
      · exact (itoa_in _ c hc).1
      · rw [List.mem_singleton] at hc; subst hc; decide
theorem canT_words {G H : Gr} (hl : (G.roots ++ G.mourned).length = (H.roots ++ H.mourned).length) (e : canT G = canT H) : (G.roots ++ G.mourned).map (wordT (ordG G)) = (H.roots ++ H.mourned).map (wordT (ordG H)) := by
  have nw : ∀ (o : List Int) (rs : List Rf) (x : UInt8), x.toNat < 45 → ∀ a ∈ rs.map (wordT o), ¬ x ∈ a := by
    intro o rs x hx a ha hc
    obtain ⟨r, _, rfl⟩ := List.mem_map.1 ha
    have := wordT_in o r x hc
    omega
  unfold canT lineT at e
  simp only [List.append_assoc, List.cons_append, List.nil_append] at e
  obtain ⟨e1, _⟩ := uptoX (joinT_mem (by decide) (nw _ _ 10 (by decide))) (joinT_mem (by decide) (nw _ _ 10 (by decide))) e
  exact joinT_inj (by simpa using hl) (nw _ _ 32 (by decide)) (nw _ _ 32 (by decide)) e1
theorem dec_inj : ∀ (u v : Nat), Lib.decDigits u = Lib.decDigits v → u = v := by
  intro u
  induction u using Nat.strongRecOn with
  | _ u ih =>
    intro v e
    have pos : ∀ k, (Lib.decDigits k) ≠ [] := fun k c => by
      have := Lib.decDigits_length k
      rw [c] at this
      have := Lib.nDigits_pos k
      simp at *
      omega
    have dg : ∀ a b : Nat, a < 10 → b < 10 → UInt8.ofNat (48 + a) = UInt8.ofNat (48 + b) → a = b := by
      intro a b ha hb h
      have := congrArg UInt8.toNat h
      simp at this
      omega
    have hD : ∀ w : Nat, Lib.decDigits w = if w < 10 then [UInt8.ofNat (48 + w)] else Lib.decDigits (w / 10) ++ [UInt8.ofNat (48 + w % 10)] := fun w => by
      rw [Lib.decDigits]
      by_cases c : w < 10
      · rw [dif_pos c, if_pos c]
      · rw [dif_neg c, if_neg c]
    rw [hD u, hD v] at e
    by_cases h : u < 10
    · by_cases h' : v < 10
      · rw [if_pos h, if_pos h'] at e
        injection e with e _
        exact dg _ _ h h' e
      · rw [if_pos h, if_neg h'] at e
        exact absurd (List.append_inj' (show [] ++ [UInt8.ofNat (48 + u)] = _ from e) rfl).1.symm (pos _)
    · by_cases h' : v < 10
      · rw [if_neg h, if_pos h'] at e
        exact absurd (List.append_inj' (show _ = [] ++ [UInt8.ofNat (48 + v)] from e) rfl).1 (pos _)
      · rw [if_neg h, if_neg h'] at e
        obtain ⟨e1, e2⟩ := List.append_inj' e rfl
        have h1 := ih (u / 10) (by omega) (v / 10) e1
        injection e2 with e2 _
        have h2 := dg _ _ (by omega) (by omega) e2
        omega
theorem itoa_inj {n m : Int} (hn : 0 ≤ n) (e : Lib.itoa m = Lib.itoa n) : m = n := by
  rw [itoa_abs, itoa_abs, if_neg (show ¬ n < 0 by omega)] at e
  by_cases h : m < 0
  · rw [if_pos h] at e
    have h1 := dec_in n.natAbs 45 (by rw [← e]; exact List.mem_cons_self ..)
    exact absurd h1.1 (by decide)
  · rw [if_neg h] at e
    have := dec_inj _ _ e
    omega
theorem snoc_last {a b : List UInt8} {x y : UInt8} (e : a ++ [x] = b ++ [y]) : a = b ∧ x = y := by
  obtain ⟨h1, h2⟩ := List.append_inj' e rfl
  injection h2 with h2 _
  exact ⟨h1, h2⟩
theorem wordT_int {o o' : List Int} {r : Rf} {x : Int} (hx : 0 ≤ x) (e : wordT o r = wordT o' (1, x)) : r = (1, x) := by
  have e' : wordT o' (1, x) = Lib.itoa x ++ [105] := by unfold wordT; rw [if_neg (by simp), if_pos rfl]
  rw [e'] at e
  unfold wordT at e
  by_cases h0 : r.1 = 0
  · rw [if_pos h0] at e
    have := (snoc_last (a := []) e).2
    exact absurd this (by decide)
  · rw [if_neg h0] at e
    by_cases h1 : r.1 = 1
    · rw [if_pos h1] at e
      have := itoa_inj hx (snoc_last e).1
      exact Prod.ext h1 this
    · rw [if_neg h1] at e
      have := (snoc_last e).2
      exact absurd this (by decide)
/-- The text changes with a root. -/
theorem canT_root {G : Gr} {k : Nat} {x : Int} (hk : k < G.roots.length) (hx : 0 ≤ x) (hr : G.roots.getD k refD ≠ (1, x)) : canT { G with roots := G.roots.set k (1, x) } ≠ canT G := by
  intro e
  have W := canT_words (by simp) e
  have g := congrArg (fun l : List (List UInt8) => l[k]?) W
  simp only [List.getElem?_map] at g
  rw [List.getElem?_append_left (by simpa using hk), List.getElem?_append_left hk, List.getElem?_set_self hk, List.getElem?_eq_getElem hk] at g
  injection g with g
  have := wordT_int hx g.symm
  rw [List.getD_eq_getElem?_getD, List.getElem?_eq_getElem hk] at hr
  exact hr this
end Go.Proofs.YtcboojhabolcbaaGreatDoor.gr
