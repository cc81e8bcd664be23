/-
  Chapter 13 as lists: what is marked. A number put into a list of numbers and taken out of one: slices.Insert, slices.Delete. Chapter 12 as the program has it: a set kept rising. A number put into a list of numbers of the call's own, whatever room there is: slices.Insert. Chapter 13 as the program has it: the memory while it is marked.
-/
import Derived.Test.YtmhbdmmpmagbkaaGreatM6
import Derived.Test.YtmhbdmmpmagbkaaGreatM5
import Derived.Test.YtmhbdmmpmagbkaaGreatM2
import Derived.Test.YtmhbdmmpmagbkaaGreatM1
import Derived.Laws.AppendOwnNone
import Derived.Maps.AppendAt
import Derived.Lib.AppendZerosOnto
import Derived.Deep.RegionLaw
import Derived.Lib.Overlaps
namespace Go.Proofs.YtmhbdmmpmagbkaaGreat.hp
open Go.RowKit rows heads words walks
set_option maxRecDepth 100000
set_option linter.unusedVariables false

/-- To which place a word leads, followed. -/
def tgt (H : Hp) (x : Int) : Option Int := if isA (fol H x) = true then some (av (fol H x)) else none
/-- Are all there to which these words lead? -/
def goesM (H : Hp) (S : Int → Prop) (l : List Int) : Prop := ∀ x ∈ l, ∀ a, tgt H x = some a → S a
/-- The Format of what lies at a place. -/
def fm (H : Hp) (p : Int) : Int := uF (H.row.getD p.toNat 0)
/-- The words that an object keeps whoever else is there. -/
def keepsM (H : Hp) (p : Int) : List Int := if fm H p = 0 then slotsOf H p else []
/-- The words that an object keeps where its first word's object is there. -/
def restM (H : Hp) (p : Int) : List Int := if fm H p = 2 then (slotsOf H p).drop 1 else []
/-- Whom it waits for. -/
def keyM (H : Hp) (p : Int) : Option Int := if fm H p = 2 then tgt H ((slotsOf H p).getD 0 0) else none
def MClosed (H : Hp) (S : Int → Prop) : Prop := goesM H S (H.roots ++ H.mourned) ∧ ∀ p, S p → goesM H S (keepsM H p) ∧ ((∀ k, keyM H p = some k → S k) → goesM H S (restM H p))
/-- What is marked: the least that is closed. -/
def Mk (H : Hp) (a : Int) : Prop := ∀ S, MClosed H S → S a
theorem mk_closed (H : Hp) : MClosed H (Mk H) :=
  ⟨fun x hx a ha S c => c.1 x hx a ha, fun p hp => ⟨fun x hx a ha S c => (c.2 p (hp S c)).1 x hx a ha, fun hk x hx a ha S c => (c.2 p (hp S c)).2 (fun k e => hk k e S c) x hx a ha⟩⟩
/-- What is so of an object's place. -/
def ObjAt (H : Hp) (ps : List Int) (a : Int) : Prop := a ∈ ps ∧ fm H a ≠ 6 ∧ fm H a ≠ 7
theorem Rt.tgt_at {H : Hp} {ps : List Int} (R : Rt H ps) {x a : Int} (hx : wordIn H ps x = true) (h : tgt H x = some a) : ObjAt H ps a := by
  obtain ⟨h1, h2⟩ := R.followed hx
  unfold tgt at h
  split at h
  · rename_i hA
    injection h with h
    subst h
    obtain ⟨h3, h4⟩ := word_place h1 hA
    refine ⟨h3, h4, fun h7 => ?_⟩
    unfold toNote ntH at h2
    rw [hA, Bool.true_and] at h2
    unfold fm at h7
    rw [h7] at h2
    cases h2
  · cases h
theorem Rt.slot_in {H : Hp} {ps : List Int} (R : Rt H ps) {p : Int} (hp : p ∈ ps) {x : Int} (hx : x ∈ slotsOf H p) : wordIn H ps x = true := by
  have hs := R.slots
  unfold slotsOk at hs
  rw [List.all_eq_true] at hs
  have h1 := hs _ hp
  rw [List.all_eq_true] at h1
  exact h1 x hx
theorem Rt.root_in {H : Hp} {ps : List Int} (R : Rt H ps) {x : Int} (hx : x ∈ H.roots ++ H.mourned) : wordIn H ps x = true := by
  rcases List.mem_append.1 hx with h | h
  · exact List.all_eq_true.1 R.roots x h
  · have hm := R.mourned
    unfold mournOk at hm
    have := List.all_eq_true.1 hm x h
    rw [Bool.and_eq_true] at this
    exact this.2
theorem keepsM_in {H : Hp} {p x : Int} (h : x ∈ keepsM H p) : x ∈ slotsOf H p := by
  unfold keepsM at h
  split at h
  · exact h
  · cases h
theorem restM_in {H : Hp} {p x : Int} (h : x ∈ restM H p) : x ∈ slotsOf H p := by
  unfold restM at h
  split at h
  · exact List.mem_of_mem_drop h
  · cases h
theorem Rt.mk_at {H : Hp} {ps : List Int} (R : Rt H ps) {a : Int} (h : Mk H a) : ObjAt H ps a :=
  h (ObjAt H ps) ⟨fun x hx a ha => R.tgt_at (R.root_in hx) ha, fun p hp => ⟨fun x hx a ha => R.tgt_at (R.slot_in hp.1 (keepsM_in hx)) ha, fun _ x hx a ha => R.tgt_at (R.slot_in hp.1 (restM_in hx)) ha⟩⟩
/-- The list of what is marked. -/
def IsMarks (H : Hp) (L : List Int) : Prop := Rising L ∧ ∀ a, a ∈ L ↔ Mk H a
theorem isMarks_eq {H : Hp} {L K : List Int} (h : IsMarks H L) (k : IsMarks H K) : L = K := rising_ext h.1 k.1 (fun a => (h.2 a).trans (k.2 a).symm)
theorem Rt.rising {H : Hp} {ps : List Int} (R : Rt H ps) : Rising ps := by
  obtain ⟨N, _, r, u, hr, hu, _, rfl⟩ := places_facts R.some'
  have h3 := N.room
  have hl := N.len
  refine List.pairwise_append.2 ⟨walkO_rising hr, walkO_rising hu, fun a ha b hb => ?_⟩
  obtain ⟨i, rfl, _, hi, _⟩ := walkO_mem (by omega) hr ha
  obtain ⟨j, rfl, hj, _, _⟩ := walkO_mem (by omega) hu hb
  omega
theorem isMarks_ex {H : Hp} {ps : List Int} (R : Rt H ps) : ∃ L, IsMarks H L := by
  classical
  refine ⟨ps.filter (fun a => decide (Mk H a)), R.rising.filter _, fun a => ?_⟩
  rw [List.mem_filter, decide_eq_true_eq]
  exact ⟨fun h => h.2, fun h => ⟨(R.mk_at h).1, h⟩⟩
theorem rising_sub_len {ps L : List Int} (hp : Rising ps) (h : Rising L) (hs : ∀ a ∈ L, a ∈ ps) : L.length ≤ ps.length := by
  have e : L = ps.filter (fun a => decide (a ∈ L)) := rising_ext h (hp.filter _) (fun a => by
    rw [List.mem_filter, decide_eq_true_eq]
    exact ⟨fun e => ⟨hs a e, e⟩, fun e => e.2⟩)
  rw [e]
  exact List.length_filter_le _ _
theorem Rt.marks_len {H : Hp} {ps L : List Int} (R : Rt H ps) (h : Rising L) (hs : ∀ a ∈ L, Mk H a) : L.length ≤ 500 :=
  Nat.le_trans (rising_sub_len R.rising h (fun a ha => (R.mk_at (hs a ha)).1)) (places_plc R.some').2
/-- The answer of Marks. -/
def IsMarksOk (H : Hp) (L : List Int) : Prop := (heapOk H = false ∧ L = []) ∨ (heapOk H = true ∧ IsMarks H L)
theorem isMarksOk_ex (H : Hp) : ∃ L, IsMarksOk H L := by
  cases h : heapOk H
  · exact ⟨[], .inl ⟨h, rfl⟩⟩
  · obtain ⟨ps, R⟩ := rt_of (ok_right h).1
    obtain ⟨L, hL⟩ := isMarks_ex R
    exact ⟨L, .inr ⟨h, hL⟩⟩
theorem isMarksOk_len {H : Hp} {L : List Int} (h : IsMarksOk H L) : L.length ≤ 500 := by
  rcases h with ⟨_, rfl⟩ | ⟨h, hL⟩
  · simp
  · obtain ⟨ps, R⟩ := rt_of (ok_right h).1
    exact R.marks_len hL.1 (fun a ha => (hL.2 a).1 ha)

/-- Is what a word leads to in the list? -/
def InM (H : Hp) (M : List Int) (x : Int) : Prop := ∀ a, tgt H x = some a → a ∈ M
/-- What is so while it is marked: Q says which words are still to be gone to, A whose rest is not yet looked at. -/
structure MI (H : Hp) (M : List Int) (Wt : Int → List Int) (Q A : Int → Prop) : Prop where
  root : ∀ x ∈ H.roots ++ H.mourned, Q x ∨ InM H M x
  keeps : ∀ p ∈ M, ∀ x ∈ keepsM H p, Q x ∨ InM H M x
  rest : ∀ p ∈ M, A p ∨ ∀ x ∈ restM H p, Q x ∨ InM H M x ∨ ∃ k, keyM H p = some k ∧ k ∉ M ∧ x ∈ Wt k
  snd : ∀ p ∈ M, Mk H p
  wsnd : ∀ k, ∀ x ∈ Wt k, Mk H k → ∀ a, tgt H x = some a → Mk H a
  rise : Rising M
theorem MI.mono {H : Hp} {M : List Int} {Wt : Int → List Int} {Q Q' A : Int → Prop} (h : MI H M Wt Q A) (hQ : ∀ x, Q x → Q' x ∨ InM H M x) : MI H M Wt Q' A := by
  have f : ∀ x, Q x ∨ InM H M x → Q' x ∨ InM H M x := fun x e => e.elim (hQ x) .inr
  refine ⟨fun x hx => f x (h.root x hx), fun p hp x hx => f x (h.keeps p hp x hx), fun p hp => ?_, h.snd, h.wsnd, h.rise⟩
  rcases h.rest p hp with e | e
  · exact .inl e
  · refine .inr (fun x hx => ?_)
    rcases e x hx with e | e | e
    · rcases hQ x e with e | e
      · exact .inl e
      · exact .inr (.inl e)
    · exact .inr (.inl e)
    · exact .inr (.inr e)
theorem mI_start (H : Hp) : MI H [] (fun _ => []) (fun x => x ∈ H.roots ++ H.mourned) (fun _ => False) :=
  ⟨fun x hx => .inl hx, fun p hp => absurd hp (by simp), fun p hp => absurd hp (by simp), fun p hp => absurd hp (by simp), fun k x hx => absurd hx (by simp), List.Pairwise.nil⟩
/-- Nothing is left to do: all that is marked is in the list, and nothing else. -/
theorem MI.fin {H : Hp} {M : List Int} {Wt : Int → List Int} (h : MI H M Wt (fun _ => False) (fun _ => False)) : IsMarks H M := by
  refine ⟨h.rise, fun a => ⟨h.snd a, fun hm => ?_⟩⟩
  refine hm (fun a => a ∈ M) ⟨fun x hx a ha => ?_, fun p hp => ⟨fun x hx a ha => ?_, fun hk x hx a ha => ?_⟩⟩
  · exact (h.root x hx).elim False.elim (fun e => e a ha)
  · exact (h.keeps p hp x hx).elim False.elim (fun e => e a ha)
  · rcases h.rest p hp with e | e
    · exact e.elim
    · rcases e x hx with e | e | ⟨k, e1, e2, _⟩
      · exact e.elim
      · exact e a ha
      · exact absurd (hk k e1) e2
theorem inM_put {H : Hp} {M : List Int} {a x : Int} (h : InM H M x) : InM H (putI a M) x := fun b hb => mem_putI.2 (.inr (h b hb))
/-- An object comes to the list. -/
theorem MI.come {H : Hp} {M : List Int} {Wt : Int → List Int} {Q A : Int → Prop} (h : MI H M Wt Q A) {a : Int} (hm : Mk H a) :
    MI H (putI a M) Wt (fun x => (Q x ∨ x ∈ keepsM H a) ∨ x ∈ Wt a) (fun p => A p ∨ p = a) := by
  refine ⟨fun x hx => ?_, fun p hp x hx => ?_, fun p hp => ?_, fun p hp => ?_, h.wsnd, rising_putI h.rise⟩
  · exact (h.root x hx).elim (fun e => .inl (.inl (.inl e))) (fun e => .inr (inM_put e))
  · rcases mem_putI.1 hp with rfl | hp
    · exact .inl (.inl (.inr hx))
    · exact (h.keeps p hp x hx).elim (fun e => .inl (.inl (.inl e))) (fun e => .inr (inM_put e))
  · rcases mem_putI.1 hp with rfl | hp
    · exact .inl (.inr rfl)
    · rcases h.rest p hp with e | e
      · exact .inl (.inl e)
      · refine .inr (fun x hx => ?_)
        rcases e x hx with e | e | ⟨k, e1, e2, e3⟩
        · exact .inl (.inl (.inl e))
        · exact .inr (.inl (inM_put e))
        · by_cases hk : k = a
          · subst hk; exact .inl (.inr e3)
          · exact .inr (.inr ⟨k, e1, fun hc => (mem_putI.1 hc).elim hk e2, e3⟩)
  · rcases mem_putI.1 hp with rfl | hp
    · exact hm
    · exact h.snd p hp
/-- Its rest is gone to, too. -/
theorem MI.goRest {H : Hp} {M : List Int} {Wt : Int → List Int} {Q A : Int → Prop} {a : Int} (h : MI H M Wt Q (fun p => A p ∨ p = a)) : MI H M Wt (fun x => Q x ∨ x ∈ restM H a) A := by
  refine ⟨fun x hx => ?_, fun p hp x hx => ?_, fun p hp => ?_, h.snd, h.wsnd, h.rise⟩
  · exact (h.root x hx).elim (fun e => .inl (.inl e)) .inr
  · exact (h.keeps p hp x hx).elim (fun e => .inl (.inl e)) .inr
  · rcases h.rest p hp with (e | rfl) | e
    · exact .inl e
    · exact .inr (fun x hx => .inl (.inr hx))
    · exact .inr (fun x hx => (e x hx).elim (fun e => .inl (.inl e)) .inr)
/-- Its rest waits. -/
theorem MI.wait {H : Hp} {M : List Int} {Wt : Int → List Int} {Q A : Int → Prop} {a k : Int} (h : MI H M Wt Q (fun p => A p ∨ p = a)) (ha : a ∈ M) (hk : keyM H a = some k) (hn : k ∉ M) :
    MI H M (fun q => if q = k then Wt k ++ restM H a else Wt q) Q A := by
  refine ⟨h.root, h.keeps, fun p hp => ?_, h.snd, fun q x hx hq b hb => ?_, h.rise⟩
  · rcases h.rest p hp with (e | rfl) | e
    · exact .inl e
    · exact .inr (fun x hx => .inr (.inr ⟨k, hk, hn, by simp only [if_pos]; exact List.mem_append_right _ hx⟩))
    · refine .inr (fun x hx => ?_)
      rcases e x hx with e | e | ⟨q, e1, e2, e3⟩
      · exact .inl e
      · exact .inr (.inl e)
      · refine .inr (.inr ⟨q, e1, e2, ?_⟩)
        show x ∈ (if q = k then _ else _)
        split
        · rename_i hqk; subst hqk; exact List.mem_append_left _ e3
        · exact e3
  · have hx' : x ∈ (if q = k then Wt k ++ restM H a else Wt q) := hx
    clear hx
    split at hx'
    · rename_i hqk
      subst hqk
      rcases List.mem_append.1 hx' with hx | hx
      · exact h.wsnd q x hx hq b hb
      · exact ((mk_closed H).2 a (h.snd a ha)).2 (fun k' e => by rw [hk] at e; injection e with e; subst e; exact hq) x hx b hb
    · exact h.wsnd q x hx' hq b hb
end Go.Proofs.YtmhbdmmpmagbkaaGreat.hp
namespace Go.Proofs.YtmhbdmmpmagbkaaGreat.hp
open Go.RowKit rows
set_option linter.unusedVariables false
set_option linter.unusedSimpArgs false

theorem cellsI_length (xs : List Int) : (cellsOf xs).length = xs.length := by simp
theorem cellsI_append (xs ys : List Int) : cellsOf (xs ++ ys) = cellsOf xs ++ cellsOf ys := by simp [cellsOf]
theorem cellsI_one (xs : List Int) : ∀ v ∈ cellsOf xs, v.oneCell' = true := ints_oneCell .i64 xs
theorem zeroI (w : World) : (zeroValue 2).run Tryz.prog w = .ok (.int .i64 0) w := by kernel_rfl
/-- 'append(row, list...)' onto a row of the call's own. -/
theorem wpList_appIE {w : World} {base : Nat} {ops : Array Oper} {rest : List Oper} {o : Oper} {act : Act} {Q : Exit → Act → World → Prop} {a : Option Addr} {cap g n c : Nat} {es fs : List Int}
    (hbs : base ≤ w.heap.size) (hown : w.ownsRow base 2 1 (.slice (some ⟨g, 0, none⟩) n c) n (cellsOf es)) (h : IntsAt w (.slice a fs.length cap) fs) (hl : n + fs.length ≤ 1048576)
    (hgd : o.guard = none) (s x : Operand) (ho : o.op = .call { callee := .builtin .append, args := #[s, x], argTypes := #[22, 22] })
    (hs : act.eval s = .slice (some ⟨g, 0, none⟩) n c) (hx : act.eval x = .slice a fs.length cap)
    (hK : ∀ g' c' w1, w1.ownsRow base 2 1 (.slice (some ⟨g', 0, none⟩) (n + fs.length) c') (n + fs.length) (cellsOf (es ++ fs)) → Ch [g] w w1 → (g' = g ∨ w.heap.size ≤ g') → wpList Tryz.prog ops Q rest (act.put o.dst (.slice (some ⟨g', 0, none⟩) (n + fs.length) c')) w1) :
    wpList Tryz.prog ops Q (o :: rest) act w := by
  obtain ⟨i0, hi, hz0, hz1, hz2⟩ := info_parts info
  have h' := h
  obtain ⟨a', cap', e, hlc, hcm, hnil, _⟩ := h
  injection e with e1 e2 e3
  subst e1 e3
  cases a with
  | none =>
    have hcap := hnil rfl
    have e : fs = [] := List.eq_nil_of_length_eq_zero (by omega)
    subst e hcap
    refine wpList_append_own_none hgd s x 22 ho _ 2 i0 1 Tryz.underlying22 hi _ n (cellsOf es) hs hown hx ?_
    exact hK g c w (by simpa using hown) (Ch.refl _ _) (.inl rfl)
  | some ad =>
    refine wpList_append_own_at _ hgd s x 22 ho _ 2 i0 (.int .i64 0) 1 8 Tryz.underlying22 hi hz0 hz1 hz2 rfl (by decide) _ n (cellsOf es) hs hown ad fs.length cap (cellsOf fs) hx (by simp) (ints_news h') (cellsI_one fs) (by unfold maxLen; omega) (by omega) hbs ?_
    intro v' w1 hown' hgrow hnn hat
    have hown2 := hown'
    obtain ⟨_, ⟨h1, _⟩ | ⟨g', c', cur, h1, hg, hh, hle, hm, hsz, ht⟩⟩ := hown'
    · exact absurd (hnn.1 h1).1 (by simp)
    · subst h1
      refine hK g' c' w1 (by rw [cellsI_append]; exact hown2) (by simpa [blk, Value.ownBlock] using ch_grown hgrow) ?_
      rcases hat with hat | hat
      · exact .inl (by simpa [Value.ownBlock] using hat)
      · exact .inr (Nat.le_of_eq (by simpa [Value.ownBlock] using hat.symm))
/-- The same, where the length is written otherwise. -/
theorem wpList_appIN {w : World} {base : Nat} {ops : Array Oper} {rest : List Oper} {o : Oper} {act : Act} {Q : Exit → Act → World → Prop} {a : Option Addr} {cap g n c m : Nat} {es fs : List Int} (hm : fs.length = m)
    (hbs : base ≤ w.heap.size) (hown : w.ownsRow base 2 1 (.slice (some ⟨g, 0, none⟩) n c) n (cellsOf es)) (h : IntsAt w (.slice a m cap) fs) (hl : n + m ≤ 1048576)
    (hgd : o.guard = none) (s x : Operand) (ho : o.op = .call { callee := .builtin .append, args := #[s, x], argTypes := #[22, 22] })
    (hs : act.eval s = .slice (some ⟨g, 0, none⟩) n c) (hx : act.eval x = .slice a m cap)
    (hK : ∀ g' c' w1, w1.ownsRow base 2 1 (.slice (some ⟨g', 0, none⟩) (n + m) c') (n + m) (cellsOf (es ++ fs)) → Ch [g] w w1 → (g' = g ∨ w.heap.size ≤ g') → wpList Tryz.prog ops Q rest (act.put o.dst (.slice (some ⟨g', 0, none⟩) (n + m) c')) w1) :
    wpList Tryz.prog ops Q (o :: rest) act w := by
  subst hm
  exact wpList_appIE hbs hown h hl hgd s x ho hs hx hK
/-- What is cut off a list from k on, and up to k. -/
theorem intsG_from {w : World} {g len cap k : Nat} {es : List Int} (h : IntsAt w (.slice (some ⟨g, 0, none⟩) len cap) es) (hl : es.length = len) (hk : k ≤ len) (ad : Option Addr) (had : ad = some ⟨g, 0, none⟩ ∧ k = len ∨ ad = some ⟨g, k, none⟩) : IntsAt w (.slice ad (len - k) (cap - k)) (es.drop k) := by
  subst hl
  obtain ⟨a', cap', e, hlc, hcm, _, hc⟩ := h
  injection e with e1 e2 e3
  subst e3
  refine ⟨ad, cap - k, by rw [List.length_drop], by rw [List.length_drop]; omega, by omega, (fun hn => by rcases had with ⟨h1, _⟩ | h1 <;> rw [h1] at hn <;> cases hn), fun hp => ?_⟩
  rw [List.length_drop] at hp
  obtain ⟨b, off, hbo, hbl, hcc⟩ := hc (by omega)
  rw [← e1] at hbo
  injection hbo with hbo
  injection hbo with hb1 hb2
  subst hb1 hb2
  rcases had with ⟨_, h1⟩ | h1
  · omega
  · refine ⟨g, k, h1, hbl, fun i hi => ?_⟩
    rw [List.length_drop] at hi
    have := hcc (k + i) (by omega)
    rw [show 0 + (k + i) = k + i by omega] at this
    simpa [List.getD_eq_getElem?_getD] using this
theorem intsG_upto {w : World} {g len cap k : Nat} {es : List Int} (h : IntsAt w (.slice (some ⟨g, 0, none⟩) len cap) es) (hl : es.length = len) (hk : k ≤ len) : IntsAt w (.slice (some ⟨g, 0, none⟩) k cap) (es.take k) := by
  subst hl
  obtain ⟨a', cap', e, hlc, hcm, _, hc⟩ := h
  injection e with e1 e2 e3
  subst e3
  have el : (es.take k).length = k := by rw [List.length_take]; omega
  refine ⟨_, cap, by rw [el], by omega, hcm, (fun hn => by cases hn), fun hp => ?_⟩
  obtain ⟨b, off, hbo, hbl, hcc⟩ := hc (by omega)
  rw [← e1] at hbo
  refine ⟨b, off, hbo, hbl, fun i hi => ?_⟩
  have := hcc i (by omega)
  have hik : i < k := by omega
  simpa [List.getD_eq_getElem?_getD, hik] using this
/-- 'append(list[:i], make([]Entry, k)...)' where the list has no room: a new row. -/
theorem wpList_zerosI {w : World} {ops : Array Oper} {rest : List Oper} {o : Oper} {act : Act} {Q : Exit → Act → World → Prop} {g n i k m : Nat} {es : List Int}
    (hgd : o.guard = none) (s x : Operand) (ho : o.op = .call { callee := .builtin .append, args := #[s, x], argTypes := #[22, 3] }) (k' : Int)
    (hs : act.eval s = .slice (some ⟨g, 0, none⟩) i n) (hx : act.eval x = .int .i64 k') (hk : k' = (k : Int)) (F : Full w g es) (hn : es.length = n) (hi : i ≤ n) (h40 : n ≤ 1048576) (h0 : 0 < k) (hg : n < i + k) (hk2 : k ≤ 1048576) (hm : i + k = m)
    (hK : ∀ (w1 : World) (L : List Value) (cap : Nat), Hid (w1.heap[w.heap.size]? = some (.cells L.toArray 2 (0, 0))) → Hid (L.take (i) = cellsOf (es.take i)) → L.length = cap → m ≤ cap → cap ≤ 9223372036854775807 → Hid (Below w.heap.size w w1) → wpList Tryz.prog ops Q rest (act.put o.dst (.slice (some ⟨w.heap.size, 0, none⟩) m cap)) w1) :
    wpList Tryz.prog ops Q (o :: rest) act w := by
  obtain ⟨i0, hi0, hz0, hz1, hz2⟩ := info_parts info
  subst hk hn hm
  have O := intsG_upto (k := i) (own_ints (full_own (base := 0) F (Nat.zero_le _) (by unfold maxLen; omega))) rfl hi
  have el : (es.take i).length = i := by rw [List.length_take]; omega
  have hold : (Builtin.firstCells i0.size i (.slice (some ⟨g, 0, none⟩) i es.length)).run Tryz.prog w.drew = .ok (cellsOf (es.take i)).toArray w.drew := by
    rw [hz1]
    exact run_firstCells_some w.drew 1 i ⟨g, 0, none⟩ i es.length (cellsOf (es.take i)) (by rw [cellsI_length, el, Nat.mul_one]) (ints_news (n := i) (cap := es.length) O)
  have hr := Lib.run_append_grow_zeros w 22 3 o.type 2 i0 (.int .i64 0) .i64 .i64 Tryz.underlying22 Tryz.underlying3 hi0 hz0 (some ⟨g, 0, none⟩) i es.length (cellsOf (es.take i)) hold k h0 (by omega) hg (by omega) (by rw [hz2]; omega) (by rw [hz2]; exact growslice_fits hg (by omega))
  have hge := grownCap_ge w (i + k) es.length 2
  have hcm : grownCap w (i + k) es.length 2 ≤ maxLen := grownCap_le_maxLen w (i + k) es.length 2 (by unfold maxLen; omega)
  refine wpList_plain hgd fun K hK' => ?_
  unfold Oper.wp
  simp [execOp, ho, resolve, invoke, builtin, hs, hx, hr, Result.andThen]
  refine hK' _ _ ?_
  generalize grownCap w (i + k) es.length 2 = cap at *
  refine hK _ ((cellsOf (es.take i)).toArray ++ (Builtin.zeroCells (Value.int .i64 0).cells k ++ Builtin.zeroCells (Value.int .i64 0).cells (cap - (i + k)))).toList cap (by show _ = _; rw [Array.toArray_toList]; simp only [cellsOf, List.map_take]; exact heap_alloc_new w.drew _) ?_ ?_ hge hcm ?_
  · show List.take _ _ = _
    simp only [Array.toList_append]
    exact List.take_left' (by simp; omega)
  · simp [Builtin.zeroCells, Value.cells, cellsI_length, el]
    omega
  · exact ⟨rfl, rfl, rfl, by simp, fun j hj => Below.heap_alloc w.drew _ j hj⟩
theorem splice_atI {L : List Value} {off : Nat} {X Y : List Value} (h : L.take off = X) (hf : off + Y.length ≤ L.length) : (splice L off Y).take (off + Y.length) = X ++ Y := by
  unfold splice
  rw [h, ← List.append_assoc]
  exact List.take_left' (by rw [← h]; simp; omega)
set_option maxRecDepth 100000 in
set_option maxHeartbeats 4000000 in
theorem insertI_any {w : World} {base g vb i : Nat} {es : List Int} {x : Int} (hbs : base ≤ w.heap.size) (F : Full w g es) (hg : base ≤ g) (hv : IntsAt w (.slice (some ⟨vb, 0, none⟩) 1 1) [x]) (hi : i ≤ es.length) (h40 : es.length ≤ 1000) :
    Calls Tryz.prog 157 #[.slice (some ⟨g, 0, none⟩) es.length es.length, .int .i64 (i : Nat), .slice (some ⟨vb, 0, none⟩) 1 1] w fun r w' => ∃ v', r = .returned v' ∧ rows.Own w' base v' (es.take i ++ [x] ++ es.drop i) ∧ Ch [g] w w' ∧ ∀ k ∈ blk v', k = g ∨ w.heap.size ≤ k := by
  have O := full_own F hg (show es.length ≤ maxLen by unfold maxLen; omega)
  by_cases hin : i = es.length
  · subst hin
    have eL : es.take es.length ++ [x] ++ es.drop es.length = es ++ [x] := by simp
    rw [eL]
    have hin' : ((es.length : Int) == (es.length : Int)) = true := by simp
    have HO : Hid _ := O
    have HV : Hid _ := hv
    clear O hv F eL
    go_enter Tryz.func157, Tryz.ntmps157
    go_wp2_with (at_builtin; refine wpList_appIN (base := base) (m := 1) (fs := [x]) rfl hbs HO.out HV.out (by omega) rfl _ _ rfl rfl rfl ?_; intro g' c' w3 hO3 hB3 hG3)
    go_ret
    refine ⟨_, rfl, ?_, hB3, fun k hk => by obtain rfl : k = g' := (by simpa [blk, Value.ownBlock] using hk); exact hG3⟩
    have e3 : (es ++ [x]).length = es.length + 1 := by simp
    show World.ownsRow _ _ _ _ _ _ _
    rw [e3]
    exact hO3
  · have hlt : i < es.length := by omega
    have hin' : ((i : Int) == (es.length : Int)) = false := by simp; omega
    have hic : ¬ es.length = i := by omega
    have hroom : (es.length : Int) < (es.length : Int) + 1 := by omega
    have HV : Hid _ := hv
    have HG : Hid _ := intsG_from (k := i) (own_ints O) rfl hi (some ⟨g, i, none⟩) (.inr rfl)
    clear hv O
    go_enter Tryz.func157, Tryz.ntmps157
    go_upto_region 10 with (at_builtin; refine wpList_zerosI (k := es.length + 1 - i) (n := es.length) (m := es.length + 1) rfl _ _ rfl _ rfl rfl (by omega) F rfl hi (by omega) (by omega) (by omega) (by omega) (by omega) ?_; intro w1 L cap hL hT hLl hcap hcm hB1)
    have hci : ¬ cap = i := by omega
    have hci1 : ¬ cap = i + 1 := by omega
    have n1 : (cellsOf [x]).length = Nat.min 1 (es.length + 1 - i) * 1 := by
      have : Nat.min 1 (es.length + 1 - i) = 1 := by simp only [Nat.min_def]; split <;> omega
      rw [this]; rfl
    have f1 : i + (cellsOf [x]).length ≤ L.length := by rw [hLl]; simp [cellsOf]; omega
    have p1 : 0 < (cellsOf [x]).length → some (⟨w.heap.size, i, none⟩ : Addr) = some ⟨w.heap.size, i, none⟩ ∧ ∃ ad, some (⟨vb, 0, none⟩ : Addr) = some ad ∧ ∀ j v, (cellsOf [x])[j]? = some v → w1.cell? (ad.add j) = some v := fun _ => ⟨rfl, _, rfl, ints_news (intsAt_below HV.out hB1.out)⟩
    have HN1 : Hid _ := n1
    have HF1 : Hid _ := f1
    have HP1 : Hid _ := p1
    have HT2 : Hid _ := splice_atI hT.out f1
    have HL2 : Hid (L.length = cap) := hLl
    clear n1 f1 p1 HV hT hLl
    go_upto_region 11 with (refine copyk.wpList_copy_k rfl (.tmp 43) (.tmp 44) 22 22 rfl 2 1 (by decide) Tryz.underlying22 infoSize (some ⟨w.heap.size, i, none⟩) (some ⟨vb, 0, none⟩) (es.length + 1 - i) (cap - i) 1 1 rfl rfl w.heap.size (i) L 2 hL.out (cellsOf [x]) HN1.out HP1.out HF1.out (cellsI_one _) w.heap.size w hB1.out (Nat.le_refl _) ?_; intro w2 hL2 hO2 hB2)
    have BD : Below w.heap.size w w2.drew := ⟨hB2.os, hB2.tape, hB2.output, hB2.size, hB2.block⟩
    have hw1 : IntKind.i64.wrap ((i : Int) + 1) = (i : Int) + 1 := by rw [IntKind.wrap_i64]; omega
    have hb1 : (0 : Int) ≤ (i : Int) + 1 := by omega
    have hb2 : (i : Int) + 1 ≤ (es.length : Int) + 1 := by omega
    have hb3 : (i : Int) ≤ (es.length : Int) := by omega
    have htn : ((i : Int) + 1).toNat = i + 1 := by omega
    have T2 : (splice L (i) (cellsOf [x])).take ((i + 1)) = cellsOf (es.take i) ++ cellsOf [x] := by
      have := HT2.out
      rwa [show i + (cellsOf [x]).length = (i + 1) by simp [cellsOf]] at this
    have e2 : (cellsOf (es.drop i)).length = (es.length - i) := by rw [cellsI_length, List.length_drop]
    have hsp : (splice L (i) (cellsOf [x])).length = cap := by rw [length_splice _ _ _ HF1.out, HL2.out]
    have n2 : (cellsOf (es.drop i)).length = Nat.min (es.length - i) (es.length + 1 - (i + 1)) * 1 := by
      have : Nat.min (es.length - i) (es.length + 1 - (i + 1)) = es.length - i := by simp only [Nat.min_def]; split <;> omega
      rw [this, e2, Nat.mul_one]
    have f2 : (i + 1) + (cellsOf (es.drop i)).length ≤ (splice L (i) (cellsOf [x])).length := by rw [hsp, e2]; omega
    have p2 : 0 < (cellsOf (es.drop i)).length → some (⟨w.heap.size, (i + 1), none⟩ : Addr) = some ⟨w.heap.size, (i + 1), none⟩ ∧ ∃ ad, some (⟨g, i, none⟩ : Addr) = some ad ∧ ∀ j v, (cellsOf (es.drop i))[j]? = some v → w2.drew.cell? (ad.add j) = some v := fun _ => ⟨rfl, _, rfl, ints_news (intsAt_below HG.out BD)⟩
    have t3 := splice_atI (Y := cellsOf (es.drop i)) T2 f2
    have l3 := length_splice (splice L (i) (cellsOf [x])) ((i + 1)) (cellsOf (es.drop i)) f2
    rw [hsp] at l3
    have HN2 : Hid _ := n2
    have HF2 : Hid _ := f2
    have HP2 : Hid _ := p2
    have HT3 : Hid _ := t3
    have HL3 : Hid _ := l3
    have HB2 : Hid (Below w.heap.size w w2.drew) := BD
    have HY1 : Hid _ := cellsI_one (es.drop i)
    clear T2 BD n2 f2 p2 t3 l3 hsp HT2 HL2 HN1 HF1 HP1 hL hO2 hB1 HG
    generalize splice L (i) (cellsOf [x]) = L2 at *
    have HE2 : Hid _ := e2
    obtain ⟨Y2, hY2⟩ : ∃ Y2, cellsOf (es.drop i) = Y2 := ⟨_, rfl⟩
    rw [hY2] at HN2 HF2 HP2 HT3 HL3 HY1 HE2
    have HY : Hid _ := hY2
    clear hY2 e2
    go_region_law (refine copyk.step_copy_k rfl (.tmp 50) (.tmp 53) 22 22 rfl 2 1 (by decide) Tryz.underlying22 infoSize (some ⟨w.heap.size, (i + 1), none⟩) (some ⟨g, i, none⟩) (es.length + 1 - (i + 1)) (cap - (i + 1)) (es.length - i) (es.length - i) (by simp [Act.eval, Act.put]) (by simp [Act.eval, Act.put]) w.heap.size ((i + 1)) L2 2 hL2.out Y2 HN2.out HP2.out HF2.out HY1.out w.heap.size w HB2.out (Nat.le_refl _) ?_; intro w3 hL3 hO3 hB3)
    have HB3 : Hid _ := hB3
    clear hB3 HN2 HP2 HF2 HY1 hL2 HB2 hO3
    go_wp2
    go_ret
    refine ⟨_, rfl, ?_, ch_below HB3.out, fun k hk => by obtain rfl : k = w.heap.size := (by simpa [blk, Value.ownBlock] using hk); exact .inr (Nat.le_refl _)⟩
    have eL : (es.take i ++ [x] ++ es.drop i).length = es.length + 1 := by simp; omega
    show World.ownsRow _ _ _ _ _ _ _
    rw [eL]
    refine ⟨by rw [cellsI_length, eL, Nat.mul_one], .inr ⟨w.heap.size, cap, _, rfl, hbs, hL3.out, by omega, hcm, ?_, ?_⟩⟩
    · simpa using HL3.out
    · rw [cellsI_append, cellsI_append, HY.out]
      have := HT3.out
      rwa [show (i + 1) + Y2.length = (es.length + 1) * 1 by rw [HE2.out]; omega] at this
/-- append within the capacity, as one step of a region that draws its order. -/
theorem step_append_fitsI {P : Program} {ops : Array Oper} {o : Oper} {a : Act} {w : World} {K : Act → World → Prop} {Q : Exit → Act → World → Prop} {E : Prop} (hgd : o.guard = none) (s x : Operand) (t : TypeId)
    (ho : o.op = Op.call { callee := Callee.builtin Builtin.append, args := #[s, x], argTypes := #[t, t] })
    (base : Nat) (e : TypeId) (i : TypeInfo) (size : Nat) (h1 : P.underlying t = some (.slice e)) (h2 : P.info? e = some i) (h4 : i.size = size)
    (g k cap : Nat) (xs : List Value) (hs : a.eval s = .slice (some ⟨g, 0, none⟩) k cap) (hown : w.ownsRow base e size (.slice (some ⟨g, 0, none⟩) k cap) k xs) (ad : Addr) (m c : Nat) (news : List Value) (hx : a.eval x = .slice (some ad) m c) (hn : news.length = m * size)
    (hc : ∀ j u, news[j]? = some u → w.cell? (ad.add j) = some u) (h1c : ∀ u ∈ news, u.oneCell' = true) (b1 : k + m ≤ cap) (q : Nat) (hq : k + m = q)
    (hK : ∀ w', w'.ownsRow base e size (.slice (some ⟨g, 0, none⟩) q cap) q (xs ++ news) → w.grownBy w' (some g) → K (a.put o.dst (.slice (some ⟨g, 0, none⟩) q cap)) w') :
    if Region.wanted o (yielded ops a.tmps) = true then Oper.wp P o a w K Q else E := by
  subst hq
  have hw : Region.wanted o (yielded ops a.tmps) = true := by simp [Region.wanted, hgd]
  rw [if_pos hw]
  obtain ⟨w', hrun, r1, r2⟩ := run_append_fits (P := P) w base t o.type e i size h1 h2 h4 g k cap xs hown ad m c news hn hc h1c b1
  unfold Oper.wp
  simp [execOp, ho, resolve, invoke, builtin, hs, hx, hrun, Result.andThen]
  exact hK w' r1 r2
/-- 'clear' on the last n entries of an own row. -/
theorem wpList_clearI {w : World} {base : Nat} {ops : Array Oper} {rest : List Oper} {o : Oper} {act : Act} {Q : Exit → Act → World → Prop} {g k n cap c : Nat} {es : List Int}
    (hgd : o.guard = none) (s : Operand) (ho : o.op = .call { callee := .builtin .clear, args := #[s], argTypes := #[22] })
    (hs : act.eval s = .slice (some ⟨g, k, none⟩) n c) (hown : w.ownsRow base 2 1 (.slice (some ⟨g, 0, none⟩) k cap) k (cellsOf es)) (hkn : k + n ≤ cap)
    (hK : ∀ w', w'.ownsRow base 2 1 (.slice (some ⟨g, 0, none⟩) k cap) k (cellsOf es) → Ch [g] w w' → wpList Tryz.prog ops Q rest (act.put o.dst (.tuple #[])) w') :
    wpList Tryz.prog ops Q (o :: rest) act w := by
  obtain ⟨h0, ⟨h1, _⟩ | ⟨g', cap', cur, h1, hg, hh, hle, hm, hsz, ht⟩⟩ := hown
  · cases h1
  injection h1 with e1 e2 e3
  injection e1 with e1
  injection e1 with e1
  subst e1 e3
  refine wpList_plain hgd fun K hK' => ?_
  obtain ⟨w', hrun, r1, r2, r3⟩ := copyk.run_clear_k (P := Tryz.prog) w 22 2 o.type (.int .i64 0) 1 Tryz.underlying22 zeroI (some ⟨g, k, none⟩) n c g (k) cur.toList 2 (by simpa using hh) (fun _ => rfl) (by simp [Builtin.zeroCells, Value.cells]) (by
    intro v hv
    simp only [Builtin.zeroCells, Value.cells] at hv
    simp at hv
    obtain ⟨j, hj, rfl⟩ := hv
    rw [Nat.mod_one]; rfl) (by simp [hsz]; omega)
  unfold Oper.wp
  simp [execOp, ho, resolve, invoke, builtin, hs, hrun, Result.andThen]
  have r4 := r3 (Below.refl g w) (Nat.le_refl _)
  refine hK' _ _ (hK w' ⟨h0, .inr ⟨g, cap, _, rfl, hg, r1, hle, hm, ?_, ?_⟩⟩ ⟨r4.os, r4.tape, r4.output, r4.size, fun k _ hn => r2 k (fun e => hn (by simp [e]))⟩)
  · split
    · simpa using hsz
    · rw [List.size_toArray, length_splice _ _ _ (by simp [Builtin.zeroCells, Value.cells, hsz]; omega)]
      simpa using hsz
  · split
    · simpa using ht
    · rw [← ht]
      rw [Nat.mul_one]
      unfold splice
      exact List.take_left' (by simp [hsz]; omega)
end Go.Proofs.YtmhbdmmpmagbkaaGreat.hp
namespace Go.Proofs.YtmhbdmmpmagbkaaGreat.hp
open Go.RowKit rows heads words walks
set_option maxRecDepth 100000
set_option linter.unusedVariables false
set_option linter.unusedSimpArgs false

theorem cmpIsNaN_any (x : Int) (w : World) : Calls Tryz.prog 140 #[.int .i64 x] w fun e w' => e = .returned (.bool false) ∧ w' = w := by
  go_enter Tryz.func140, Tryz.ntmps140
  go_wp2
  go_ret
  exact ⟨by simp, rfl⟩
theorem slIsNaN_any (x : Int) (w : World) : Calls Tryz.prog 107 #[.int .i64 x] w fun e w' => e = .returned (.bool false) ∧ w' = w := by
  go_enter Tryz.func107, Tryz.ntmps107
  go_wp2
  go_ret
  exact ⟨by simp, rfl⟩
set_option maxHeartbeats 1000000 in
theorem less_any (x y : Int) (w : World) : Calls Tryz.prog 106 #[.int .i64 x, .int .i64 y] w fun e w' => e = .returned (.bool (decide (x < y))) ∧ w' = w := by
  have N1 := cmpIsNaN_any x w
  go_enter Tryz.func106, Tryz.ntmps106
  go_wp2_with (go_at_call 140; refine N1.mono ?_; clear N1; rintro e w3 ⟨rfl, hw3⟩; rw [hw3]; clear hw3 w3)
  go_ret
  exact ⟨rfl, rfl⟩
/-- Where a search ends. -/
def EndsI (xs : List Int) (x : Int) (i : Nat) : Prop := i ≤ xs.length ∧ (∀ t, t < i → xs.getD t 0 < x) ∧ ∀ t, i ≤ t → t < xs.length → x ≤ xs.getD t 0
theorem rising_at {xs : List Int} (h : Rising xs) {i j : Nat} (hij : i < j) (hj : j < xs.length) : xs.getD i 0 < xs.getD j 0 := by
  have hP := List.pairwise_iff_getElem.1 h
  have := hP i j (by omega) hj hij
  rw [List.getD_eq_getElem?_getD, List.getElem?_eq_getElem (by omega), List.getD_eq_getElem?_getD, List.getElem?_eq_getElem hj]
  exact this
set_option maxHeartbeats 4000000 in
theorem binSearchI_any {w : World} {v : Value} {xs : List Int} (h : IntsAt w v xs) (hr : Rising xs) (hl : xs.length ≤ 1048576) (x : Int) :
    Calls Tryz.prog 80 #[v, .int .i64 x] w fun e w' => ∃ i : Nat, EndsI xs x i ∧ e = .returned (.tuple #[.int .i64 i, .bool (decide (i < xs.length) && decide (xs.getD i 0 = x))]) ∧ w' = w := by
  obtain ⟨a, cap, rfl, hlc, hcm, _, hc⟩ := h
  have HC : Hid _ := hc
  have HR : Hid (∀ i j, i < j → j < xs.length → xs.getD i 0 < xs.getD j 0) := fun i j h1 h2 => rising_at hr h1 h2
  clear hc hr
  go_enter Tryz.func80, Tryz.ntmps80
  go_wp2_with fail
  go_loopw [7, 8] (fun p q wr => ∃ lo hi : Nat, p = .int .i64 lo ∧ q = .int .i64 hi ∧ lo ≤ hi ∧ hi ≤ xs.length ∧ (∀ t, t < lo → xs.getD t 0 < x) ∧ (∀ t, hi ≤ t → t < xs.length → x ≤ xs.getD t 0) ∧ wr = w) (fun p q _ => (intOf q).toNat - (intOf p).toNat)
  case atStart => exact ⟨0, xs.length, rfl, rfl, Nat.zero_le _, Nat.le_refl _, fun t ht => by omega, fun t h1 h2 => by omega, rfl⟩
  case round =>
    obtain ⟨lo, hi, rfl, rfl, hlh, hhn, hlo, hhi, hB⟩ := hrel
    subst hB
    have HLO : Hid _ := hlo
    have HHI : Hid _ := hhi
    clear hlo hhi
    by_cases hlt : lo < hi
    · have hm1 : lo ≤ (lo + hi) / 2 ∧ (lo + hi) / 2 < hi := by omega
      have ediv : ((lo : Int) + (hi : Int)).fdiv (2 ^ min (Int.toNat 1) IntKind.u64.bits) = ((lo : Int) + (hi : Int)) / 2 := by
        rw [show (2 : Int) ^ min (Int.toNat 1) IntKind.u64.bits = 2 by decide, Int.fdiv_eq_ediv_of_nonneg _ (by decide)]
      obtain ⟨b, off, rfl, hb, hcc⟩ := HC.out (by omega)
      have c0 := hcc ((lo + hi) / 2) (by omega)
      have HUP : Hid (xs.getD ((lo + hi) / 2) 0 < x → ∀ t, t < ((lo + hi) / 2) + 1 → xs.getD t 0 < x) := fun e t ht => by
        by_cases e' : t = ((lo + hi) / 2)
        · rw [e']; exact e
        · have := HR.out t ((lo + hi) / 2) (by omega) (by omega)
          omega
      have HDN : Hid (¬ xs.getD ((lo + hi) / 2) 0 < x → ∀ t, ((lo + hi) / 2) ≤ t → t < xs.length → x ≤ xs.getD t 0) := fun e t h1 h2 => by
        by_cases e' : t = ((lo + hi) / 2)
        · rw [e']; omega
        · have := HR.out ((lo + hi) / 2) t (by omega) h2
          omega
      clear hcc HC HR
      generalize xs.getD ((lo + hi) / 2) 0 = y at *
      have A := less_any y x wr
      by_cases hx : y < x
      · have HUP2 : Hid _ := HUP.out hx
        rw [decide_eq_true hx] at A
        clear HUP HDN HLO hx
        go_wp2_with (go_at_call 106; refine A.mono ?_; clear A; rintro e w3 ⟨rfl, hw3⟩; rw [hw3]; clear hw3 w3)
        exact ⟨⟨((lo + hi) / 2) + 1, hi, by go_num, rfl, by omega, hhn, HUP2, HHI, trivial⟩, by simp [intOf]; omega⟩
      · have HDN2 : Hid _ := HDN.out hx
        rw [decide_eq_false hx] at A
        clear HUP HDN HHI hx
        go_wp2_with (go_at_call 106; refine A.mono ?_; clear A; rintro e w3 ⟨rfl, hw3⟩; rw [hw3]; clear hw3 w3)
        exact ⟨⟨lo, ((lo + hi) / 2), rfl, by go_num, by omega, by omega, HLO, HDN2, trivial⟩, by simp [intOf]; omega⟩
    · have e : hi = lo := by omega
      subst e
      have HE : Hid (EndsI xs x hi) := ⟨hhn, HLO.out, HHI.out⟩
      clear HLO HHI HR
      by_cases hn : hi < xs.length
      · obtain ⟨b, off, rfl, hb, hcc⟩ := HC.out (by omega)
        have c0 := hcc hi (by omega)
        have N1 := slIsNaN_any (xs.getD hi 0) wr
        have hn' : (hi : Int) < (xs.length : Int) := by omega
        clear hcc HC
        obtain ⟨y, hy⟩ : ∃ y, xs.getD hi 0 = y := ⟨_, rfl⟩
        rw [hy] at c0 N1
        have HY : Hid _ := hy
        clear hy
        by_cases hyx : y = x
        · subst hyx
          go_wp2_with (go_at_call 107; refine N1.mono ?_; clear N1; rintro e w3 ⟨rfl, hw3⟩; rw [hw3]; clear hw3 w3)
          go_ret2
          exact ⟨hi, HE.out, by rw [HY.out]; simp [hn], rfl⟩
        · have hyx' : (y == x) = false := by simp [hyx]
          go_wp2_with (go_at_call 107; refine N1.mono ?_; clear N1; rintro e w3 ⟨rfl, hw3⟩; rw [hw3]; clear hw3 w3)
          go_ret2
          exact ⟨hi, HE.out, by rw [HY.out]; simp [hyx], rfl⟩
      · have hn' : ¬ (hi : Int) < (xs.length : Int) := by omega
        clear HC
        go_wp2_with fail
        go_ret2
        exact ⟨hi, HE.out, by simp [hn], rfl⟩

/-- A set in its block. -/
abbrev stb (v : Value) : Obj := .cells #[v] 61
theorem stb_cells {W : World} {b : Nat} {v : Value} (h : W.heap[b]? = some (stb v)) : W.cell? ⟨b, 0, none⟩ = some v ∧ W.frozen? ⟨b, 0, none⟩ = false := by
  constructor <;> simp [World.cell?, World.frozen?, h]
theorem stb_set {W : World} {b : Nat} {v : Value} (h : W.heap[b]? = some (stb v)) (u : Value) : (W.setCell ⟨b, 0, none⟩ u).heap[b]? = some (stb u) :=
  (cells_setCell h 0 u).trans (by simp)
theorem filter_not (x : Int) : ∀ {xs : List Int}, x ∉ xs → xs.filter (fun q => !(q == x)) = xs := by
  intro xs h
  rw [List.filter_eq_self]
  intro q hq
  have : q ≠ x := fun e => h (e ▸ hq)
  simp [this]
theorem ends_not {xs : List Int} {x : Int} {i : Nat} (hr : Rising xs) (h : EndsI xs x i) (hn : (decide (i < xs.length) && decide (xs.getD i 0 = x)) = false) : x ∉ xs := by
  intro hx
  obtain ⟨m, hm, e⟩ := List.getElem_of_mem hx
  have e' : xs.getD m 0 = x := by rw [List.getD_eq_getElem?_getD, List.getElem?_eq_getElem hm]; exact e
  rcases Nat.lt_trichotomy m i with h1 | h1 | h1
  · have := h.2.1 m h1; omega
  · subst h1; rw [decide_eq_true hm, decide_eq_true e'] at hn; cases hn
  · have h2 := h.2.2 i (Nat.le_refl _) (by omega)
    have h3 := rising_at hr h1 hm
    omega
theorem filter_at {xs : List Int} {x : Int} {i : Nat} (hr : Rising xs) (hi : i < xs.length) (e : xs.getD i 0 = x) : xs.filter (fun q => !(q == x)) = xs.take i ++ xs.drop (i + 1) := by
  have e0 : xs[i] = x := by rw [List.getD_eq_getElem?_getD, List.getElem?_eq_getElem hi] at e; exact e
  have hs : xs = xs.take i ++ xs[i] :: xs.drop (i + 1) := by rw [← List.drop_eq_getElem_cons hi, List.take_append_drop]
  have n1 : x ∉ xs.take i := fun hm => by
    have := rising_take hr hi x hm
    omega
  have n2 : x ∉ xs.drop (i + 1) := fun hm => by
    obtain ⟨m, hm', em⟩ := List.getElem_of_mem hm
    rw [List.getElem_drop] at em
    rw [List.length_drop] at hm'
    have := rising_at hr (show i < i + 1 + m by omega) (by omega)
    rw [e, List.getD_eq_getElem?_getD, List.getElem?_eq_getElem (by omega)] at this
    simp only [Option.getD_some] at this
    omega
  conv => lhs; rw [hs]
  rw [List.filter_append, List.filter_cons_of_neg (by simp [e0]), filter_not x n1, filter_not x n2]
theorem put_there {x : Int} : ∀ {xs : List Int}, Rising xs → x ∈ xs → putI x xs = xs
  | [], _, h => by simp at h
  | y :: xs, hr, h => by
    have hr' := List.pairwise_cons.1 hr
    unfold putI
    rcases List.mem_cons.1 h with rfl | h
    · rw [if_neg (by omega), if_pos rfl]
    · have := hr'.1 x h
      rw [if_pos this, put_there hr'.2 h]
theorem put_at {x : Int} : ∀ {xs : List Int} {i : Nat}, i ≤ xs.length → (∀ t, t < i → xs.getD t 0 < x) → (∀ t, i ≤ t → t < xs.length → x < xs.getD t 0) → putI x xs = xs.take i ++ [x] ++ xs.drop i
  | [], i, h, _, _ => by simp [putI]
  | y :: xs, 0, h, _, h2 => by
    have := h2 0 (Nat.le_refl _) (by simp)
    simp at this
    unfold putI
    rw [if_neg (by omega), if_neg (by omega)]
    simp
  | y :: xs, i + 1, h, h1, h2 => by
    have := h1 0 (by omega)
    simp at this
    unfold putI
    rw [if_pos this, put_at (i := i) (by simpa using h) (fun t ht => by simpa using h1 (t + 1) (by omega)) (fun t ht hl => by simpa using h2 (t + 1) (by omega) (by simpa using hl))]
    simp
set_option maxHeartbeats 4000000 in
theorem add_any {w : World} {base P g : Nat} {xs : List Int} (hbs : base ≤ w.heap.size) (hP : w.heap[P]? = some (stb (.slice (some ⟨g, 0, none⟩) xs.length xs.length))) (F : Full w g xs) (hg : base ≤ g) (hgP : g ≠ P) (hr : Rising xs) (hl : xs.length ≤ 1000) (x : Int) :
    Calls Tryz.prog 137 #[.pointer (some ⟨P, 0, none⟩), .int .i64 x] w fun e w' => e = .returned (.tuple #[]) ∧ ∃ v', w'.heap[P]? = some (stb v') ∧ rows.Own w' base v' (putI x xs) ∧ Ch [g, P] w w' := by
  have O := full_own F hg (show xs.length ≤ maxLen by unfold maxLen; omega)
  have BS := binSearchI_any (own_ints O) hr (by omega) x
  obtain ⟨z0, _⟩ := stb_cells hP
  have HP : Hid _ := hP
  have HO : Hid _ := O
  have HF : Hid _ := F
  have HR : Hid _ := hr
  clear hP O F hr
  go_enter Tryz.func137, Tryz.ntmps137
  go_wp2_with fail
  refine BS.mono ?_
  clear BS
  rintro e w3 ⟨i, hE, rfl, hw3⟩
  rw [hw3]
  clear hw3 w3
  obtain ⟨bb, hbb⟩ : ∃ bb, (decide (i < xs.length) && decide (xs.getD i 0 = x)) = bb := ⟨_, rfl⟩
  rw [hbb]
  cases bb
  · have hnx := ends_not HR.out hE hbb
    have hne : ∀ t, t < xs.length → xs.getD t 0 ≠ x := fun t ht e => hnx (by rw [← e, List.getD_eq_getElem?_getD, List.getElem?_eq_getElem ht]; exact List.getElem_mem ht)
    have HN : Hid (putI x xs = xs.take i ++ [x] ++ xs.drop i) := put_at hE.1 hE.2.1 (fun t h1 h2 => by have := hE.2.2 t h1 h2; have := hne t h2; omega)
    have hi := hE.1
    have B1 : Below w.heap.size w (w.alloc (.cells #[.int .i64 x] 2)) := (Below.refl _ _).alloc (Nat.le_refl _) _
    have HW : Full (w.alloc (.cells #[.int .i64 x] 2)) w.heap.size [x] := heap_alloc_new w _
    have DE := insertI_any (base := base) (Nat.le_trans hbs B1.size) ((B1.block g (lt_of_block HF.out)).trans HF.out : Full _ g xs) hg (own_ints (full_own (base := 0) HW (Nat.zero_le _) (show 1 ≤ maxLen by decide))) hi hl
    have hp1 := stb_cells ((B1.block P (lt_of_block HP.out)).trans HP.out)
    have z1 := hp1.1
    have HB1 : Hid _ := B1
    have hi' : (i : Int) ≤ (xs.length : Int) := by omega
    clear hbb hE hne hnx HW B1 hp1
    go_wp2_with fail
    generalize w.alloc (.cells #[.int .i64 x] 2) = X at *
    refine DE.mono ?_
    clear DE
    rintro e w4 ⟨v4, rfl, O4, C4, K4⟩
    obtain ⟨va, vn, vc, rfl⟩ := ints_slice (own_ints O4)
    have q4 := (C4.block P (Nat.lt_of_lt_of_le (lt_of_block HP.out) HB1.out.size) (by simp; omega)).trans ((HB1.out.block P (lt_of_block HP.out)).trans HP.out)
    obtain ⟨y0, f0⟩ := stb_cells q4
    have HQ4 : Hid _ := q4
    have HO4 : Hid _ := O4
    have HC4 : Hid _ := C4
    have HK4 : Hid _ := K4
    clear q4 O4 C4 K4 z1
    have nP : P ∉ blk (Value.slice va vn vc) := fun hk => by
      have := HK4.out P hk
      have := lt_of_block HP.out
      have := HB1.out.size
      omega
    go_wp2_with fail
    refine bodyPost_end (results_none rfl _ _ _) rfl ⟨rfl, _, stb_set HQ4.out _, ?_, ?_⟩
    · rw [HN.out]
      exact row_ch (S := [P]) HO4.out (one_ch _ _ _ _) (fun k hk => by simp; rintro rfl; exact nP hk)
    · exact ((ch_below HB1.out).trans (HC4.out.mono (fun k hk => by simp at hk; simp [hk]))).trans ((one_ch _ _ _ _).mono (fun k hk => by simp at hk; simp [hk]))
  · rw [Bool.and_eq_true, decide_eq_true_eq, decide_eq_true_eq] at hbb
    have HN : Hid (putI x xs = xs) := put_there HR.out (by rw [← hbb.2, List.getD_eq_getElem?_getD, List.getElem?_eq_getElem hbb.1]; exact List.getElem_mem hbb.1)
    clear hbb hE
    go_wp2_with fail
    exact bodyPost_end (results_none rfl _ _ _) rfl ⟨rfl, _, HP.out, by rw [HN.out]; exact HO.out, Ch.refl _ _⟩
end Go.Proofs.YtmhbdmmpmagbkaaGreat.hp
namespace Go.Proofs.YtmhbdmmpmagbkaaGreat.hp
open Go.RowKit rows
set_option linter.unusedVariables false
set_option linter.unusedSimpArgs false

/-- slices.overlaps: two slices in two blocks. -/
theorem overlapsI {w : World} {vb g k ln lc : Nat} {x : Int} {cur : Array Value} (hv : w.heap[vb]? = some (.cells #[.int .i64 x] 2 (0, 0))) (hg : w.heap[g]? = some (.cells cur 2 (0, 0))) (hc : cur.size ≠ 0) (hne : vb ≠ g) :
    (callFunc 169 #[.slice (some ⟨vb, 0, none⟩) 1 1, .slice (some ⟨g, k, none⟩) ln lc]).run Tryz.prog w = .ok (.value (.bool false)) w := by
  rw [run_callFunc_extern Tryz.func169 (by kernel_rfl) (by kernel_rfl) (by kernel_rfl) (e := Extern.SlicesOverlaps.overlaps #[22, 22] #[4]) (by kernel_rfl),
    Lib.run_overlaps_apart w 22 4 2 Tryz.underlying22 1 (fun w => by kernel_rfl) ⟨vb, 0, none⟩ ⟨g, k, none⟩ 1 1 ln lc hne 2 2 1 cur.size (by simp [World.shape?, hv]) (by simp [World.shape?, hg]) hc (by simp [World.frozen?, hv]) (by simp [World.frozen?, hv])]
  rfl
/-- 'append(row, x)' onto a row of the call's own, nil or not. -/
theorem wpList_appG {w : World} {base : Nat} {ops : Array Oper} {rest : List Oper} {o : Oper} {act : Act} {Q : Exit → Act → World → Prop} {v : Value} {vb n : Nat} {es : List Int} {x : Int}
    (hbs : base ≤ w.heap.size) (hown : w.ownsRow base 2 1 v n (cellsOf es)) (h : w.heap[vb]? = some (.cells #[.int .i64 x] 2 (0, 0))) (hl : n ≤ 1048576)
    (hgd : o.guard = none) (s y : Operand) (ho : o.op = .call { callee := .builtin .append, args := #[s, y], argTypes := #[22, 22] })
    (hs : act.eval s = v) (hy : act.eval y = .slice (some ⟨vb, 0, none⟩) 1 1)
    (hK : ∀ a' c' w1, w1.ownsRow base 2 1 (.slice a' (n + 1) c') (n + 1) (cellsOf (es ++ [x])) → Ch (blk v) w w1 → (∀ k ∈ blk (.slice a' (n + 1) c'), k ∈ blk v ∨ w.heap.size ≤ k) → wpList Tryz.prog ops Q rest (act.put o.dst (.slice a' (n + 1) c')) w1) :
    wpList Tryz.prog ops Q (o :: rest) act w := by
  obtain ⟨i0, hi, hz0, hz1, hz2⟩ := info_parts info
  have F : Full w vb [x] := h
  refine wpList_append_own_at _ hgd s y 22 ho _ 2 i0 (.int .i64 0) 1 8 Tryz.underlying22 hi hz0 hz1 hz2 rfl (by decide) v n (cellsOf es) hs hown ⟨vb, 0, none⟩ 1 1 (cellsOf [x]) hy (by simp) (ints_news (own_ints (full_own (base := 0) F (Nat.zero_le _) (show 1 ≤ maxLen by decide)))) (cellsI_one [x]) (by unfold maxLen; omega) (by omega) hbs ?_
  intro v' w1 hown' hgrow _ hat
  obtain ⟨a', c', rfl⟩ : ∃ a c, v' = .slice a (n + 1) c := by
    obtain ⟨_, ⟨h1, h2⟩ | ⟨g', c', cur, h1, _⟩⟩ := hown'
    · omega
    · exact ⟨_, _, h1⟩
  refine hK a' c' w1 (by rw [cellsI_append]; exact hown') (ch_grown hgrow) (fun k hk => ?_)
  unfold blk at hk ⊢
  rcases hat with e | e
  · rw [e] at hk; exact .inl hk
  · rw [e] at hk; simp at hk; exact .inr (by omega)
theorem splice_shift {L : List Value} {es : List Int} {i : Nat} {x : Int} (hL : es.length + 1 ≤ L.length) (hT : L.take es.length = cellsOf es) (hi : i < es.length) :
    (splice (splice L (i + 1) (cellsOf (es.drop i))) i (cellsOf [x])).take (es.length + 1) = cellsOf (es.take i ++ [x] ++ es.drop i) := by
  have e1 : (cellsOf (es.drop i)).length = es.length - i := by simp
  have e2 : L.take i = cellsOf (es.take i) := by
    have : L.take i = (L.take es.length).take i := by rw [List.take_take, Nat.min_eq_left (by omega)]
    rw [this, hT]; simp [cellsOf, List.map_take]
  have e3 : (L.take (i + 1)).length = i + 1 := by rw [List.length_take]; omega
  generalize hY : cellsOf (es.drop i) = Y at *
  have e4 : (splice L (i + 1) Y).take i = L.take i := by
    unfold splice
    rw [List.take_append_of_le_length (by omega), List.take_take, Nat.min_eq_left (by omega)]
  have e5 : (splice L (i + 1) Y).drop (i + 1) = Y ++ L.drop (i + 1 + Y.length) := by
    unfold splice
    rw [List.drop_append_of_le_length (by omega), List.drop_eq_nil_of_le (by omega), List.nil_append]
  rw [show splice (splice L (i + 1) Y) i (cellsOf [x]) = (splice L (i + 1) Y).take i ++ (cellsOf [x] ++ (splice L (i + 1) Y).drop (i + (cellsOf [x]).length)) from rfl, show i + (cellsOf [x]).length = i + 1 by simp [cellsOf], e4, e5, e2, ← List.append_assoc, ← List.append_assoc, cellsI_append, cellsI_append, hY]
  exact List.take_left' (by simp [e1]; omega)
set_option maxRecDepth 100000 in
set_option maxHeartbeats 4000000 in
theorem insertG_any {w : World} {base vb i : Nat} {v : Value} {es : List Int} {x : Int} (hbs : base ≤ w.heap.size) (O : rows.Own w base v es) (hv : w.heap[vb]? = some (.cells #[.int .i64 x] 2 (0, 0))) (hvb : vb ∉ blk v) (hi : i ≤ es.length) (h40 : es.length ≤ 1000) :
    Calls Tryz.prog 157 #[v, .int .i64 (i : Nat), .slice (some ⟨vb, 0, none⟩) 1 1] w fun r w' => ∃ v', r = .returned v' ∧ rows.Own w' base v' (es.take i ++ [x] ++ es.drop i) ∧ Ch (blk v) w w' ∧ ∀ k ∈ blk v', k ∈ blk v ∨ w.heap.size ≤ k := by
  obtain ⟨a, c, rfl⟩ : ∃ a c, v = .slice a es.length c := by
    obtain ⟨a, c, e, _⟩ := own_ints O
    exact ⟨a, c, e⟩
  by_cases hin : i = es.length
  · subst hin
    have eL : es.take es.length ++ [x] ++ es.drop es.length = es ++ [x] := by simp
    rw [eL]
    have hin' : ((es.length : Int) == (es.length : Int)) = true := by simp
    have HO : Hid _ := O
    have HV : Hid _ := hv
    clear O hv eL hvb
    by_cases hcc : c = es.length
    · subst hcc
      cases a with
      | none =>
        go_enter Tryz.func157, Tryz.ntmps157
        go_wp2_with (at_builtin; refine wpList_appG (base := base) hbs HO.out HV.out (by omega) rfl _ _ rfl rfl rfl ?_; intro a' c' w3 hO3 hB3 hG3)
        go_ret
        refine ⟨_, rfl, ?_, hB3, hG3⟩
        have e3 : (es ++ [x]).length = es.length + 1 := by simp
        show World.ownsRow _ _ _ _ _ _ _
        rw [e3]
        exact hO3
      | some ad =>
        obtain ⟨ab, ao, asp⟩ := ad
        go_enter Tryz.func157, Tryz.ntmps157
        go_wp2_with (at_builtin; refine wpList_appG (base := base) hbs HO.out HV.out (by omega) rfl _ _ rfl rfl rfl ?_; intro a' c' w3 hO3 hB3 hG3)
        go_ret
        refine ⟨_, rfl, ?_, hB3, hG3⟩
        have e3 : (es ++ [x]).length = es.length + 1 := by simp
        show World.ownsRow _ _ _ _ _ _ _
        rw [e3]
        exact hO3
    · cases a with
      | none =>
        go_enter Tryz.func157, Tryz.ntmps157
        go_wp2_with (at_builtin; refine wpList_appG (base := base) hbs HO.out HV.out (by omega) rfl _ _ rfl rfl rfl ?_; intro a' c' w3 hO3 hB3 hG3)
        go_ret
        refine ⟨_, rfl, ?_, hB3, hG3⟩
        have e3 : (es ++ [x]).length = es.length + 1 := by simp
        show World.ownsRow _ _ _ _ _ _ _
        rw [e3]
        exact hO3
      | some ad =>
        obtain ⟨ab, ao, asp⟩ := ad
        go_enter Tryz.func157, Tryz.ntmps157
        go_wp2_with (at_builtin; refine wpList_appG (base := base) hbs HO.out HV.out (by omega) rfl _ _ rfl rfl rfl ?_; intro a' c' w3 hO3 hB3 hG3)
        go_ret
        refine ⟨_, rfl, ?_, hB3, hG3⟩
        have e3 : (es ++ [x]).length = es.length + 1 := by simp
        show World.ownsRow _ _ _ _ _ _ _
        rw [e3]
        exact hO3
  · obtain ⟨h0, ⟨_, h2⟩ | ⟨g, cap, cur, h1, hg, hh, hle, hm, hsz, ht⟩⟩ := id O
    · omega
    · injection h1 with e1 e2 e3
      subst e1 e3
      have hbl : blk (Value.slice (some ⟨g, 0, none⟩) es.length c) = [g] := by simp [blk, Value.ownBlock]
      rw [hbl] at hvb ⊢
      have hne : vb ≠ g := fun e => hvb (by simp [e])
      have hlt : i < es.length := by omega
      by_cases hcap : c = es.length
      · subst hcap
        have F : Full w g es := own_full O rfl
        have V : Full w vb [x] := hv
        refine (insertI_any (base := base) hbs F hg (own_ints (full_own (base := 0) V (Nat.zero_le _) (show 1 ≤ maxLen by decide))) hi h40).mono ?_
        rintro e w' ⟨v', rfl, O', C', K'⟩
        exact ⟨v', rfl, O', C', fun k hk => (K' k hk).elim (fun e => .inl (by simp [e])) .inr⟩
      · have hin' : ((i : Int) == (es.length : Int)) = false := by simp; omega
        have hroom : ¬ (c : Int) < (es.length : Int) + 1 := by omega
        have hc63 : c ≤ 9223372036854775807 := hm
        have hov : ∀ lb cb, (callFunc 169 #[.slice (some ⟨vb, 0, none⟩) 1 1, .slice (some ⟨g, i + 1, none⟩) lb cb]).run Tryz.prog w = .ok (.value (.bool false)) w := fun lb cb => overlapsI hv hh (by omega) hne
        have hw1 : IntKind.i64.wrap ((i : Int) + 1) = (i : Int) + 1 := by rw [IntKind.wrap_i64]; omega
        have hw2 : IntKind.i64.wrap ((es.length : Int) + 1) = (es.length : Int) + 1 := by rw [IntKind.wrap_i64]; omega
        have hb1 : (0 : Int) ≤ (i : Int) + 1 := by omega
        have hb2 : (i : Int) + 1 ≤ (es.length : Int) + 1 := by omega
        have hb3 : (i : Int) ≤ (es.length : Int) + 1 := by omega
        have hb4 : (i : Int) ≤ (es.length : Int) := by omega
        have hb5 : (es.length : Int) + 1 ≤ (c : Int) := by omega
        have hb6 : (0 : Int) ≤ (es.length : Int) + 1 := by omega
        have htn : ((i : Int) + 1).toNat = i + 1 := by omega
        have htn2 : ((es.length : Int) + 1).toNat = es.length + 1 := by omega
        have hci : ¬ c = i := by omega
        have hci1 : ¬ c = i + 1 := by omega
        have hcl : cur.toList.length = c := by simpa using hsz
        have eY : (cellsOf (es.drop i)).length = es.length - i := by simp
        have hg2 : w.heap[g]? = some (.cells cur.toList.toArray 2 (0, 0)) := by simpa using hh
        have HG : Hid (w.drew.heap[g]? = some (.cells cur.toList.toArray 2 (0, 0))) := hg2
        have HN : Hid ((cellsOf (es.drop i)).length = Nat.min (es.length + 1 - i) (es.length + 1 - (i + 1)) * 1) := by
          show _ = _
          have : Nat.min (es.length + 1 - i) (es.length + 1 - (i + 1)) = es.length - i := by simp only [Nat.min_def]; split <;> omega
          rw [this, eY, Nat.mul_one]
        have HP : Hid (∀ j v, (cellsOf (es.drop i))[j]? = some v → w.drew.cell? ((⟨g, i, none⟩ : Addr).add j) = some v) := ints_news (intsG_from (k := i) (own_ints O) rfl hi (some ⟨g, i, none⟩) (.inr rfl))
        have HF : Hid (i + 1 + (cellsOf (es.drop i)).length ≤ cur.toList.length) := by show _ ≤ _; rw [eY, hcl]; omega
        have HY : Hid _ := cellsI_one (es.drop i)
        have HNX : Hid (∀ W : World, (∀ k, k ≠ g → W.heap[k]? = w.heap[k]?) → W.heap[g]? = some (.cells (splice cur.toList (i + 1) (cellsOf (es.drop i))).toArray 2 (0, 0)) → ∀ j v, (cellsOf [x])[j]? = some v → W.cell? ((⟨vb, 0, none⟩ : Addr).add j) = some v) := fun W hW _ => by
          have V : Full W vb [x] := (hW vb hne).trans hv
          exact ints_news (own_ints (full_own (base := 0) V (Nat.zero_le _) (show 1 ≤ maxLen by decide)))
        have HF2 : Hid (i + (cellsOf [x]).length ≤ (splice cur.toList (i + 1) (cellsOf (es.drop i))).length) := by
          show _ ≤ _
          rw [length_splice _ _ _ HF.out, hcl]; simp [cellsOf]; omega
        have HN2 : Hid ((cellsOf [x]).length = Nat.min 1 (es.length + 1 - i) * 1) := by
          show _ = _
          have : Nat.min 1 (es.length + 1 - i) = 1 := by simp only [Nat.min_def]; split <;> omega
          rw [this]; rfl
        have HEND : Hid (∀ W : World, W.heap[g]? = some (.cells (splice (splice cur.toList (i + 1) (cellsOf (es.drop i))) i (cellsOf [x])).toArray 2 (0, 0)) → rows.Own W base (.slice (some ⟨g, 0, none⟩) (es.length + 1) c) (es.take i ++ [x] ++ es.drop i)) := fun W hW => by
          have eL : (es.take i ++ [x] ++ es.drop i).length = es.length + 1 := by simp; omega
          show World.ownsRow _ _ _ _ _ _ _
          rw [eL]
          refine ⟨by rw [cellsI_length, eL, Nat.mul_one], .inr ⟨g, c, _, rfl, hg, hW, by omega, hm, ?_, ?_⟩⟩
          · rw [List.size_toArray, length_splice _ _ _ HF2.out, length_splice _ _ _ HF.out, hcl]; omega
          · rw [Nat.mul_one]
            exact splice_shift (by rw [hcl]; omega) (by rw [← ht, Nat.mul_one]) hlt
        clear O hv hh h0 hsz ht eY hg2 hm hg
        generalize hY2 : cellsOf (es.drop i) = Y at *
        clear hY2
        go_enter Tryz.func157, Tryz.ntmps157
        go_wp2_with (simp only [hov])
        go_region_law (refine copyk.step_copy_k rfl (.tmp 73) (.tmp 76) 22 22 rfl 2 1 (by decide) Tryz.underlying22 infoSize (some ⟨g, i + 1, none⟩) (some ⟨g, i, none⟩) (es.length + 1 - (i + 1)) (c - (i + 1)) (es.length + 1 - i) (c - i) (by simp [Act.eval, Act.put]) (by simp [Act.eval, Act.put]) g (i + 1) cur.toList 2 HG.out Y HN.out (fun _ => ⟨rfl, _, rfl, HP.out⟩) HF.out HY.out g w.drew (Below.refl _ _) (Nat.le_refl _) ?_; intro w3 hL3 hO3 hB3)
        have HP2 : Hid _ := HNX.out w3 (fun k hk => hO3.out k hk) hL3.out
        have HB3 : Hid _ := hB3
        clear HNX HN HP HF HY HG hB3 hov
        go_wp2_with (refine copyk.wpList_copy_k rfl (.tmp 80) (.tmp 81) 22 22 rfl 2 1 (by decide) Tryz.underlying22 infoSize (some ⟨g, i, none⟩) (some ⟨vb, 0, none⟩) (es.length + 1 - i) (c - i) 1 1 rfl rfl g i (splice cur.toList (i + 1) Y) 2 hL3.out (cellsOf [x]) HN2.out (fun _ => ⟨rfl, _, rfl, HP2.out⟩) HF2.out (cellsI_one _) g w3 (Below.refl _ _) (Nat.le_refl _) ?_; intro w4 hL4 hO4 hB4)
        go_ret
        refine ⟨_, rfl, HEND.out _ hL4.out, ?_, fun k hk => .inl (by simpa [blk, Value.ownBlock] using hk)⟩
        exact ⟨hB4.os.trans HB3.out.os, hB4.tape.trans HB3.out.tape, hB4.output.trans HB3.out.output, Nat.le_trans HB3.out.size hB4.size, fun k hk hn => (hO4.out k (by simpa using hn)).trans (hO3.out k (by simpa using hn))⟩
end Go.Proofs.YtmhbdmmpmagbkaaGreat.hp
namespace Go.Proofs.YtmhbdmmpmagbkaaGreat.hp
open Go.RowKit rows heads words walks Go.Maps
set_option maxRecDepth 100000
set_option linter.unusedVariables false
set_option linter.unusedSimpArgs false

/-- The block of what marks: the rooms, the set, the map of who waits. -/
abbrev mkb (up : Int) (v vm : Value) (mb : Nat) : Obj := .cells #[.int .i64 up, v, vm, .map (some mb)] 106
theorem mkb_cells {W : World} {b : Nat} {up : Int} {v vm : Value} {mb : Nat} (h : W.heap[b]? = some (mkb up v vm mb)) : (W.cell? ⟨b, 0, none⟩ = some (.int .i64 up) ∧ W.cell? ⟨b, 1, none⟩ = some v ∧ W.cell? ⟨b, 2, none⟩ = some vm ∧ W.cell? ⟨b, 3, none⟩ = some (.map (some mb))) ∧ ∀ k, W.frozen? ⟨b, k, none⟩ = false := by
  refine ⟨⟨?_, ?_, ?_, ?_⟩, fun k => ?_⟩ <;> simp [World.cell?, World.frozen?, h]
theorem mkb_set {W : World} {b : Nat} {up : Int} {v vm : Value} {mb : Nat} (h : W.heap[b]? = some (mkb up v vm mb)) (u : Value) : (W.setCell ⟨b, 2, none⟩ u).heap[b]? = some (mkb up v u mb) := (cells_setCell h 2 u).trans (by simp)
theorem ends_in {xs : List Int} {x : Int} {i : Nat} (h : (decide (i < xs.length) && decide (xs.getD i 0 = x)) = true) : x ∈ xs := by
  rw [Bool.and_eq_true, decide_eq_true_eq, decide_eq_true_eq] at h
  rw [← h.2, List.getD_eq_getElem?_getD, List.getElem?_eq_getElem h.1]
  exact List.getElem_mem h.1
set_option maxHeartbeats 4000000 in
theorem hasM_any {w : World} {C o : Nat} {v : Value} {xs : List Int} (hc : w.cell? ⟨C, o, none⟩ = some v) (h : IntsAt w v xs) (hr : Rising xs) (hl : xs.length ≤ 1048576) (x : Int) :
    Calls Tryz.prog 53 #[.pointer (some ⟨C, o, none⟩), .int .i64 x] w fun e w' => e = .returned (.bool (decide (x ∈ xs))) ∧ w' = w := by
  have BS := binSearchI_any h hr hl x
  obtain ⟨a, n, c, rfl⟩ := ints_slice h
  have HR : Hid _ := hr
  clear h hr
  go_enter Tryz.func53, Tryz.ntmps53
  go_wp2_with fail
  refine BS.mono ?_
  clear BS
  rintro e w3 ⟨i, hE, rfl, hw3⟩
  rw [hw3]
  clear hw3 w3
  obtain ⟨bb, hbb⟩ : ∃ bb, (decide (i < xs.length) && decide (xs.getD i 0 = x)) = bb := ⟨_, rfl⟩
  rw [hbb]
  have HB : Hid (decide (x ∈ xs) = bb) := by
    show _ = _
    cases bb
    · exact decide_eq_false (ends_not HR.out hE hbb)
    · exact decide_eq_true (ends_in hbb)
  clear hbb hE
  go_wp2_with fail
  go_ret
  exact ⟨by rw [HB.out]; rfl, rfl⟩
set_option maxHeartbeats 4000000 in
theorem addM_any {w : World} {base C : Nat} {up : Int} {v vm : Value} {mb : Nat} {xs : List Int} (hbs : base ≤ w.heap.size) (hP : w.heap[C]? = some (mkb up v vm mb)) (O : rows.Own w base vm xs) (hC : C ∉ blk vm) (hr : Rising xs) (hl : xs.length ≤ 1000) (x : Int) :
    Calls Tryz.prog 137 #[.pointer (some ⟨C, 2, none⟩), .int .i64 x] w fun e w' => e = .returned (.tuple #[]) ∧ ∃ v', w'.heap[C]? = some (mkb up v v' mb) ∧ rows.Own w' base v' (putI x xs) ∧ Ch (C :: blk vm) w w' ∧ ∀ k ∈ blk v', k ∈ blk vm ∨ w.heap.size ≤ k := by
  have BS := binSearchI_any (own_ints O) hr (by omega) x
  obtain ⟨⟨_, _, z0, _⟩, _⟩ := mkb_cells hP
  obtain ⟨a, c, hvm⟩ : ∃ a c, vm = .slice a xs.length c := by
    obtain ⟨a, c, e, _⟩ := own_ints O
    exact ⟨a, c, e⟩
  subst hvm
  have HP : Hid _ := hP
  have HO : Hid _ := O
  have HR : Hid _ := hr
  have HC : Hid _ := hC
  clear hP O hr hC
  go_enter Tryz.func137, Tryz.ntmps137
  go_wp2_with fail
  refine BS.mono ?_
  clear BS
  rintro e w3 ⟨i, hE, rfl, hw3⟩
  rw [hw3]
  clear hw3 w3
  obtain ⟨bb, hbb⟩ : ∃ bb, (decide (i < xs.length) && decide (xs.getD i 0 = x)) = bb := ⟨_, rfl⟩
  rw [hbb]
  cases bb
  · have hnx := ends_not HR.out hE hbb
    have hne : ∀ t, t < xs.length → xs.getD t 0 ≠ x := fun t ht e => hnx (by rw [← e, List.getD_eq_getElem?_getD, List.getElem?_eq_getElem ht]; exact List.getElem_mem ht)
    have HN : Hid (putI x xs = xs.take i ++ [x] ++ xs.drop i) := put_at hE.1 hE.2.1 (fun t h1 h2 => by have := hE.2.2 t h1 h2; have := hne t h2; omega)
    have hi := hE.1
    have B1 : Below w.heap.size w (w.alloc (.cells #[.int .i64 x] 2)) := (Below.refl _ _).alloc (Nat.le_refl _) _
    have HW : (w.alloc (.cells #[.int .i64 x] 2)).heap[w.heap.size]? = some (.cells #[.int .i64 x] 2 (0, 0)) := heap_alloc_new w _
    have hvb : w.heap.size ∉ blk (Value.slice a xs.length c) := fun hk => Nat.lt_irrefl _ (blk_lt HO.out _ hk).2
    have DE := insertG_any (base := base) (Nat.le_trans hbs B1.size) (own_below HO.out B1) HW hvb hi hl
    have hp1 := mkb_cells ((B1.block C (lt_of_block HP.out)).trans HP.out)
    have z1 := hp1.1.2.2.1
    have HB1 : Hid _ := B1
    have hi' : (i : Int) ≤ (xs.length : Int) := by omega
    clear hbb hE hne hnx HW B1 hp1 hvb
    go_wp2_with fail
    generalize w.alloc (.cells #[.int .i64 x] 2) = X at *
    refine DE.mono ?_
    clear DE
    rintro e w4 ⟨v4, rfl, O4, C4, K4⟩
    obtain ⟨va, vn, vc, rfl⟩ := ints_slice (own_ints O4)
    have q4 := (C4.block C (Nat.lt_of_lt_of_le (lt_of_block HP.out) HB1.out.size) HC.out).trans ((HB1.out.block C (lt_of_block HP.out)).trans HP.out)
    obtain ⟨⟨_, _, y0, _⟩, f0⟩ := mkb_cells q4
    have f2 := f0 2
    have HQ4 : Hid _ := q4
    have HO4 : Hid _ := O4
    have HC4 : Hid _ := C4
    have HK4 : Hid _ := K4
    clear q4 O4 C4 K4 z1 f0
    have nP : C ∉ blk (Value.slice va vn vc) := fun hk => by
      rcases HK4.out C hk with e | e
      · exact HC.out e
      · have := lt_of_block HP.out
        have := HB1.out.size
        omega
    go_wp2_with fail
    refine bodyPost_end (results_none rfl _ _ _) rfl ⟨rfl, _, mkb_set HQ4.out _, ?_, ?_, fun k hk => ?_⟩
    · rw [HN.out]
      exact row_ch (S := [C]) HO4.out (one_ch _ _ _ _) (fun k hk => by simp; rintro rfl; exact nP hk)
    · exact ((ch_below HB1.out).trans (HC4.out.mono (fun k hk => List.mem_cons_of_mem _ hk))).trans ((one_ch _ _ _ _).mono (fun k hk => by simp at hk; simp [hk]))
    · exact (HK4.out k hk).imp id (fun e => Nat.le_trans HB1.out.size e)
  · have HN : Hid (putI x xs = xs) := put_there HR.out (ends_in hbb)
    clear hbb hE
    go_wp2_with fail
    exact bodyPost_end (results_none rfl _ _ _) rfl ⟨rfl, _, HP.out, by rw [HN.out]; exact HO.out, Ch.refl _ _, fun k hk => .inl hk⟩

/-- Nothing but these blocks has changed. -/
structure ChP (S : Nat → Prop) (w w' : World) : Prop where
  os : w'.os = w.os
  tape : w'.tape = w.tape
  output : w'.output = w.output
  size : w.heap.size ≤ w'.heap.size
  block : ∀ k, k < w.heap.size → ¬ S k → w'.heap[k]? = w.heap[k]?
theorem ChP.refl (S : Nat → Prop) (w : World) : ChP S w w := ⟨rfl, rfl, rfl, Nat.le_refl _, fun _ _ _ => rfl⟩
theorem ChP.trans {S S' : Nat → Prop} {a b c : World} (h : ChP S a b) (k : ChP S' b c) (hs : ∀ j, S' j → S j ∨ a.heap.size ≤ j) : ChP S a c :=
  ⟨k.os.trans h.os, k.tape.trans h.tape, k.output.trans h.output, Nat.le_trans h.size k.size, fun i hi hn => (k.block i (Nat.lt_of_lt_of_le hi h.size) (fun e => (hs i e).elim hn (fun e => by omega))).trans (h.block i hi hn)⟩
theorem chP_below {S : Nat → Prop} {a b : World} (h : Below a.heap.size a b) : ChP S a b := ⟨h.os, h.tape, h.output, h.size, fun k hk _ => h.block k hk⟩
theorem chP_ch {S : Nat → Prop} {T : List Nat} {a b : World} (h : Ch T a b) (hs : ∀ k ∈ T, S k) : ChP S a b := ⟨h.os, h.tape, h.output, h.size, fun k hk hn => h.block k hk (fun e => hn (hs k e))⟩
theorem below_chP {S : Nat → Prop} {B : Nat} {a b : World} (h : ChP S a b) (hb : B ≤ a.heap.size) (hs : ∀ k, S k → B ≤ k) : Below B a b := ⟨h.os, h.tape, h.output, h.size, fun k hk => h.block k (by omega) (fun e => by have := hs k e; omega)⟩
theorem own_chP {S : Nat → Prop} {w w' : World} {base : Nat} {v : Value} {xs : List Int} (h : rows.Own w base v xs) (hc : ChP S w w') (hd : ∀ k ∈ blk v, ¬ S k) : rows.Own w' base v xs := by
  obtain ⟨h0, ⟨h1, h2⟩ | ⟨g, cap, cur, h1, hg, hh, hr⟩⟩ := h
  · exact ⟨h0, .inl ⟨h1, h2⟩⟩
  · subst h1
    exact ⟨h0, .inr ⟨g, cap, cur, rfl, hg, (hc.block g (lt_of_block hh) (hd g (by simp [blk, Value.ownBlock]))).trans hh, hr⟩⟩
theorem map_same {w w' : World} {k : TypeId} {R : Value → Option (DataW Value × List MemPlace)} {b n : Nat} {D : DataW Value} (h : w.ownsMap Tryz.prog k R b n D) (hb : w'.heap[b]? = w.heap[b]?) : w'.ownsMap Tryz.prog k R b n D := by
  obtain ⟨es, clock, h1, h2⟩ := h
  exact ⟨es, clock, hb.trans h1, h2⟩
abbrev nilV : Value := .slice none 0 0
/-- A value of the map, as it stands there. -/
def heldV (v : Value) : Option (DataW Value × List MemPlace) := some (.held v, [])
/-- The state: the set, who waits for whom, and where that lies. -/
structure Mm where
  vm : Value
  n : Nat
  D : DataW Value
  f : Int → Value
  M : List Int
  Wt : Int → List Int
/-- What may still be written. -/
def Mm.fs (m : Mm) (C mb : Nat) (j : Nat) : Prop := j = C ∨ j = mb ∨ j ∈ blk m.vm ∨ ∃ k, k ∉ m.M ∧ j ∈ blk (m.f k)
structure MS (W0 : World) (C mb base : Nat) (up : Int) (v : Value) (ok : Int → Prop) (m : Mm) (s : Nat) (W : World) : Prop where
  low : Below W0.heap.size W0 W
  c0 : W0.heap.size ≤ C
  c1 : C < base
  m0 : W0.heap.size ≤ mb
  m1 : mb < base
  cm : C ≠ mb
  bz : base ≤ W.heap.size
  blk' : W.heap[C]? = some (mkb up v m.vm mb)
  map : W.ownsMap Tryz.prog 2 heldV mb m.n m.D
  tidy : Tidy m.D
  look : ∀ a, m.D.atKey (kI a) (.held nilV) = .held (m.f a)
  mown : rows.Own W base m.vm m.M
  wown : ∀ a, rows.Own W base (m.f a) (m.Wt a)
  ap : ∀ a b, a ≠ b → ∀ k ∈ blk (m.f a), k ∉ blk (m.f b)
  am : ∀ a, ∀ k ∈ blk (m.f a), k ∉ blk m.vm
  wok : ∀ a, ∀ x ∈ m.Wt a, ok x
  nl : m.n + s ≤ m.M.length
  wl : ∀ a, (m.Wt a).length + 20 * s ≤ 20 * m.M.length
  ml : m.M.length ≤ 500
theorem MS.less {W0 : World} {C mb base : Nat} {up : Int} {v : Value} {ok : Int → Prop} {m : Mm} {s t : Nat} {W : World} (h : MS W0 C mb base up v ok m s W) (ht : t ≤ s) : MS W0 C mb base up v ok m t W :=
  { h with nl := by have := h.nl; omega, wl := fun a => by have := h.wl a; omega }
theorem MS.fsLow {W0 : World} {C mb base : Nat} {up : Int} {v : Value} {ok : Int → Prop} {m : Mm} {s : Nat} {W : World} (h : MS W0 C mb base up v ok m s W) {j : Nat} (hj : m.fs C mb j) : W0.heap.size ≤ j ∧ j < W.heap.size := by
  have := h.c0; have := h.c1; have := h.m0; have := h.m1; have := h.bz
  rcases hj with rfl | rfl | hj | ⟨k, _, hj⟩
  · omega
  · omega
  · have := blk_lt h.mown j hj; omega
  · have := blk_lt (h.wown k) j hj; omega
theorem MS.below {W0 : World} {C mb base : Nat} {up : Int} {v : Value} {ok : Int → Prop} {m : Mm} {s : Nat} {W W' : World} (h : MS W0 C mb base up v ok m s W) (hb : Below W.heap.size W W') : MS W0 C mb base up v ok m s W' :=
  { h with low := h.low.trans (hb.mono h.low.size), bz := Nat.le_trans h.bz hb.size, blk' := (hb.block _ (lt_of_block h.blk')).trans h.blk', map := map_same h.map (hb.block _ h.map.lt), mown := own_below h.mown hb, wown := fun a => own_below (h.wown a) hb }
/-- From one state to a later one. -/
structure MR (W0 : World) (C mb base : Nat) (up : Int) (v : Value) (ok : Int → Prop) (s : Nat) (m : Mm) (W : World) (m' : Mm) (W' : World) : Prop where
  ms : MS W0 C mb base up v ok m' s W'
  ch : ChP (m.fs C mb) W W'
  sub : ∀ j, m'.fs C mb j → m.fs C mb j ∨ W.heap.size ≤ j
  le : ∀ a ∈ m.M, a ∈ m'.M
  ln : m.M.length ≤ m'.M.length
theorem MR.refl {W0 : World} {C mb base : Nat} {up : Int} {v : Value} {ok : Int → Prop} {m : Mm} {s : Nat} {W : World} (h : MS W0 C mb base up v ok m s W) : MR W0 C mb base up v ok s m W m W := ⟨h, ChP.refl _ _, fun j hj => .inl hj, fun a ha => ha, Nat.le_refl _⟩
theorem MR.trans {W0 : World} {C mb base : Nat} {up : Int} {v : Value} {ok : Int → Prop} {m m1 m2 : Mm} {s t : Nat} {W W1 W2 : World} (h : MR W0 C mb base up v ok s m W m1 W1) (k : MR W0 C mb base up v ok t m1 W1 m2 W2) : MR W0 C mb base up v ok t m W m2 W2 :=
  ⟨k.ms, h.ch.trans k.ch h.sub, fun j hj => (k.sub j hj).elim (h.sub j) (fun e => .inr (Nat.le_trans h.ch.size e)), fun a ha => k.le a (h.le a ha), Nat.le_trans h.ln k.ln⟩
theorem MR.below {W0 : World} {C mb base : Nat} {up : Int} {v : Value} {ok : Int → Prop} {m m1 : Mm} {s : Nat} {W W1 W2 : World} (h : MR W0 C mb base up v ok s m W m1 W1) (hb : Below W1.heap.size W1 W2) : MR W0 C mb base up v ok s m W m1 W2 :=
  ⟨h.ms.below hb, h.ch.trans (chP_below (S := fun _ => False) hb) (fun j hj => hj.elim), h.sub, h.le, h.ln⟩
theorem MR.ahead {W0 : World} {C mb base : Nat} {up : Int} {v : Value} {ok : Int → Prop} {m m1 : Mm} {s : Nat} {W W1 W2 : World} (hb : Below W.heap.size W W1) (h : MR W0 C mb base up v ok s m W1 m1 W2) : MR W0 C mb base up v ok s m W m1 W2 :=
  ⟨h.ms, (chP_below hb).trans h.ch (fun j hj => .inl hj), fun j hj => (h.sub j hj).imp id (fun e => Nat.le_trans hb.size e), h.le, h.ln⟩
theorem MR.less {W0 : World} {C mb base : Nat} {up : Int} {v : Value} {ok : Int → Prop} {m m1 : Mm} {s t : Nat} {W W1 : World} (h : MR W0 C mb base up v ok s m W m1 W1) (ht : t ≤ s) : MR W0 C mb base up v ok t m W m1 W1 := ⟨h.ms.less ht, h.ch, h.sub, h.le, h.ln⟩
theorem len_put_new {a : Int} {M : List Int} (hr : Rising M) (hn : a ∉ M) : (putI a M).length = M.length + 1 := by
  obtain ⟨h1, h2, h3⟩ := len_putI (n := a) (xs := M)
  have : (putI a M).length ≠ M.length := fun e => hn (by have := h3 e; rw [← this]; exact mem_putI.2 (.inl rfl))
  omega
/-- An object comes to the set. -/
theorem MS.come {W0 : World} {C mb base : Nat} {up : Int} {v : Value} {ok : Int → Prop} {m : Mm} {s : Nat} {W W' : World} (h : MS W0 C mb base up v ok m s W) (hr : Rising m.M) {a : Int} (hn : a ∉ m.M) {v' : Value} (hl : (putI a m.M).length ≤ 500)
    (h1 : W'.heap[C]? = some (mkb up v v' mb)) (h2 : rows.Own W' base v' (putI a m.M)) (h3 : Ch (C :: blk m.vm) W W') (h4 : ∀ k ∈ blk v', k ∈ blk m.vm ∨ W.heap.size ≤ k) :
    MR W0 C mb base up v ok (s + 1) m W { m with vm := v', M := putI a m.M } W' := by
  have hne : ∀ k, k ∈ C :: blk m.vm → W0.heap.size ≤ k := fun k hk => by
    rcases List.mem_cons.1 hk with rfl | hk
    · exact h.c0
    · have := blk_lt h.mown k hk; have := h.c0; have := h.c1; omega
  have hw : ∀ a, ∀ k ∈ blk (m.f a), k ∉ C :: blk m.vm := fun a k hk hc => by
    rcases List.mem_cons.1 hc with rfl | hc
    · have := blk_lt (h.wown a) k hk; have := h.c1; omega
    · exact h.am a k hk hc
  have hmb : mb ∉ C :: blk m.vm := fun hc => by
    rcases List.mem_cons.1 hc with e | hc
    · exact h.cm e.symm
    · have := blk_lt h.mown mb hc; have := h.m1; omega
  have hlen := len_put_new hr hn
  refine ⟨?_, chP_ch h3 (fun k hk => ?_), fun j hj => ?_, fun b hb => mem_putI.2 (.inr hb), by show _ ≤ (putI a m.M).length; omega⟩
  · exact { low := h.low.trans (below_ch h3 h.low.size hne), c0 := h.c0, c1 := h.c1, m0 := h.m0, m1 := h.m1, cm := h.cm, bz := Nat.le_trans h.bz h3.size, blk' := h1, map := map_same h.map (h3.block mb h.map.lt hmb), tidy := h.tidy, look := h.look, mown := h2, wown := fun b => row_ch (h.wown b) h3 (hw b), ap := h.ap, wok := h.wok, ml := hl,
            am := fun b k hk hc => by
              rcases h4 k hc with e | e
              · exact h.am b k hk e
              · have := blk_lt (h.wown b) k hk; omega
            nl := by show _ ≤ (putI a m.M).length; have := h.nl; show m.n + (s + 1) ≤ _; omega
            wl := fun b => by show (m.Wt b).length + 20 * (s + 1) ≤ 20 * (putI a m.M).length; have := h.wl b; omega }
  · rcases List.mem_cons.1 hk with rfl | hk
    · exact .inl rfl
    · exact .inr (.inr (.inl hk))
  · rcases hj with e | e | e | ⟨k, hk, e⟩
    · exact .inl (.inl e)
    · exact .inl (.inr (.inl e))
    · exact (h4 j e).imp (fun e => .inr (.inr (.inl e))) id
    · exact .inl (.inr (.inr (.inr ⟨k, fun hc => hk (mem_putI.2 (.inr hc)), e⟩)))
/-- What the map has of a place. -/
theorem MS.lookup {W0 : World} {C mb base : Nat} {up : Int} {v : Value} {ok : Int → Prop} {m : Mm} {s : Nat} {W : World} (h : MS W0 C mb base up v ok m s W) {a : Int} (ha : I64 a) : (Instr.lookup 104 (.map (some mb)) (.int .i64 a) false).run Tryz.prog W = .ok (m.f a) W := by
  have HKY : keyOf Tryz.prog 2 (.int .i64 a) = some (kI a) := keyOf_int_mk Tryz.underlying2 (WalkArith.wf_i64 ha)
  obtain ⟨u, ps, hrun, hv⟩ := h.map.lookup (t := 104) (e := 22) lawK Tryz.underlying104 (z := nilV) (by kernel_rfl) (zd := .held nilV) (zp := []) rfl HKY
  rw [h.look a] at hv
  unfold heldV at hv
  injection hv with hv
  injection hv with hv _
  injection hv with hv
  rw [hrun, hv]
/-- Words come to wait for one that is not in the set. -/
theorem MS.wait {W0 : World} {C mb base : Nat} {up : Int} {v : Value} {ok : Int → Prop} {m : Mm} {s : Nat} {W W1 : World} (h : MS W0 C mb base up v ok m (s + 1) W) {a : Int} (ha : I64 a) (hn : a ∉ m.M) {v' : Value} {L : List Int} (hL : L.length ≤ 20) (hok : ∀ x ∈ L, ok x)
    (h2 : rows.Own W1 base v' (m.Wt a ++ L)) (h3 : Ch (blk (m.f a)) W W1) (h4 : ∀ k ∈ blk v', k ∈ blk (m.f a) ∨ W.heap.size ≤ k) :
    ∃ W2 D', (Instr.mapUpdate 104 (.map (some mb)) (.int .i64 a) v').run Tryz.prog W1 = .ok () W2 ∧
      MR W0 C mb base up v ok s m W { m with n := m.n + 1, D := D', f := fun q => if q = a then v' else m.f q, Wt := fun q => if q = a then m.Wt a ++ L else m.Wt q } W2 := by
  have HKY : keyOf Tryz.prog 2 (.int .i64 a) = some (kI a) := keyOf_int_mk Tryz.underlying2 (WalkArith.wf_i64 ha)
  have hlow : ∀ k ∈ blk (m.f a), base ≤ k ∧ k < W.heap.size := blk_lt (h.wown a)
  have hmb : mb ∉ blk (m.f a) := fun hc => by have := hlow mb hc; have := h.m1; omega
  have hC : C ∉ blk (m.f a) := fun hc => by have := hlow C hc; have := h.c1; omega
  have M1 := map_same (w' := W1) h.map (h3.block mb h.map.lt hmb)
  have hnl := h.nl
  have hml := h.ml
  obtain ⟨W2, hrun, M2, g2⟩ := M1.update (t := 104) (e := 22) lawK Tryz.underlying104 (by unfold maxLen; omega) HKY (val := v') (d := .held v') (ps := []) rfl
  have c2 : Ch [mb] W1 W2 := ⟨g2.os, g2.tape, g2.output, g2.size, fun k hk hn => g2.block k hk (fun e => hn (by cases e; simp))⟩
  have hbv : ∀ k ∈ blk v', base ≤ k ∧ k < W1.heap.size := blk_lt h2
  refine ⟨W2, m.D.put (kI a) (.held v'), hrun, ⟨?_, ?_, fun j hj => ?_, fun b hb => hb, Nat.le_refl _⟩⟩
  · refine { low := ?_, c0 := h.c0, c1 := h.c1, m0 := h.m0, m1 := h.m1, cm := h.cm, bz := Nat.le_trans h.bz (Nat.le_trans h3.size c2.size), blk' := ?_, map := M2, tidy := h.tidy.put (kI_key _) _, look := fun q => ?_, mown := ?_, wown := fun q => ?_, ap := fun p q hpq k hk => ?_, am := fun q k hk => ?_, wok := fun q x hx => ?_, ml := hml, nl := ?_, wl := fun q => ?_ }
    · refine (h.low.trans (below_ch h3 h.low.size (fun k hk => ?_))).trans (below_ch c2 (Nat.le_trans h.low.size h3.size) (fun k hk => ?_))
      · have := hlow k hk; have := h.c0; have := h.c1; omega
      · have e : k = mb := by simpa using hk
        rw [e]; exact h.m0
    · exact (c2.block C (Nat.lt_of_lt_of_le (lt_of_block h.blk') h3.size) (by simpa using h.cm)).trans ((h3.block C (lt_of_block h.blk') hC).trans h.blk')
    · show (m.D.put (kI a) (.held v')).atKey (kI q) _ = .held (if q = a then v' else m.f q)
      by_cases e : q = a
      · subst e; rw [if_pos rfl]; exact Maps.atKey_put_same h.tidy.isMap (kI_key _) _ _
      · rw [if_neg e, Maps.atKey_put_other (kI_ne e)]; exact h.look q
    · refine row_ch (row_ch h.mown h3 (fun k hk hc => h.am a k hc hk)) c2 (fun k hk hc => ?_)
      have e : k = mb := by simpa using hc
      have := blk_lt h.mown k hk; have := h.m1; omega
    · show rows.Own W2 base (if q = a then v' else m.f q) (if q = a then m.Wt a ++ L else m.Wt q)
      by_cases e : q = a
      · rw [if_pos e, if_pos e]
        refine row_ch h2 c2 (fun k hk hc => ?_)
        have e : k = mb := by simpa using hc
        have := hbv k hk; have := h.m1; omega
      · rw [if_neg e, if_neg e]
        refine row_ch (row_ch (h.wown q) h3 (fun k hk hc => h.ap q a e k hk hc)) c2 (fun k hk hc => ?_)
        have e : k = mb := by simpa using hc
        have := blk_lt (h.wown q) k hk; have := h.m1; omega
    · have hk' : k ∈ blk (if p = a then v' else m.f p) := hk
      show k ∉ blk (if q = a then v' else m.f q)
      by_cases e1 : p = a
      · rw [if_pos e1] at hk'
        rw [if_neg (fun e => hpq (e1.trans e.symm))]
        rcases h4 k hk' with e | e
        · exact h.ap a q (fun e' => hpq (e1.trans e')) k e
        · exact fun hc => by have := blk_lt (h.wown q) k hc; omega
      · rw [if_neg e1] at hk'
        by_cases e2 : q = a
        · rw [if_pos e2]
          intro hc
          rcases h4 k hc with e | e
          · exact h.ap p a e1 k hk' e
          · have := blk_lt (h.wown p) k hk'; omega
        · rw [if_neg e2]; exact h.ap p q hpq k hk'
    · have hk' : k ∈ blk (if q = a then v' else m.f q) := hk
      by_cases e1 : q = a
      · rw [if_pos e1] at hk'
        rcases h4 k hk' with e | e
        · exact h.am a k e
        · exact fun hc => by have := blk_lt h.mown k hc; omega
      · rw [if_neg e1] at hk'; exact h.am q k hk'
    · have hx' : x ∈ (if q = a then m.Wt a ++ L else m.Wt q) := hx
      by_cases e1 : q = a
      · rw [if_pos e1] at hx'
        rcases List.mem_append.1 hx' with e | e
        · exact h.wok a x e
        · exact hok x e
      · rw [if_neg e1] at hx'; exact h.wok q x hx'
    · show m.n + 1 + s ≤ m.M.length
      omega
    · show (if q = a then m.Wt a ++ L else m.Wt q).length + 20 * s ≤ 20 * m.M.length
      by_cases e1 : q = a
      · rw [if_pos e1, List.length_append]; have := h.wl a; omega
      · rw [if_neg e1]; have := h.wl q; omega
  · refine (chP_ch h3 (fun k hk => .inr (.inr (.inr ⟨a, hn, hk⟩)))).trans (chP_ch (S := fun j => j = mb) c2 (fun k hk => by simpa using hk)) (fun j e => .inl (.inr (.inl e)))
  · rcases hj with e | e | e | ⟨k, hk, e⟩
    · exact .inl (.inl e)
    · exact .inl (.inr (.inl e))
    · exact .inl (.inr (.inr (.inl e)))
    · have e' : j ∈ blk (if k = a then v' else m.f k) := e
      by_cases e1 : k = a
      · rw [if_pos e1] at e'
        exact (h4 j e').imp (fun e => .inr (.inr (.inr ⟨a, hn, e⟩))) id
      · rw [if_neg e1] at e'
        exact .inl (.inr (.inr (.inr ⟨k, hk, e'⟩)))
end Go.Proofs.YtmhbdmmpmagbkaaGreat.hp
