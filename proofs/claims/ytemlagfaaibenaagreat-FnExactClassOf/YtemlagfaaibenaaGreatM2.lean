/-
  A copy by make and copy: a block of its own that holds just these numbers. Chains of notes: which of them end, and how the program finds it out by a map of rounds. A drawn region with a store among its operations: the store's fact lies at a slot that is none.
-/
import Derived.Test.YtemlagfaaibenaaGreatM1
import Derived.Laws.CopyOwn
import Derived.Deep.Cut
import Derived.Deep.CutRange
import Derived.Maps.OwnSet
namespace Go.Proofs.YtemlagfaaibenaaGreat.rows
open Go.RowKit
set_option maxRecDepth 100000

theorem infoSize : (Tryz.prog.info? 2).map (·.size) = some 1 := by kernel_rfl
theorem splice_all {L cs : List Value} (h : cs.length = L.length) : splice L 0 cs = cs := by simp [splice, h]

theorem src_of {w : World} {a : Option Addr} {cap : Nat} {xs : List Int} (h : IntsAt w (.slice a xs.length cap) xs) (hp : 0 < xs.length) : ∃ ad, a = some ad ∧ ∀ j v, (cellsOf xs)[j]? = some v → w.cell? (ad.add j) = some v := by
  have h' := h
  obtain ⟨a', cap', e, _, _, _, hc⟩ := h
  injection e with e1 e2 e3
  subst e1
  obtain ⟨b, off, rfl, _⟩ := hc hp
  exact ⟨_, rfl, ints_news h'⟩

theorem own_nil (w : World) (base : Nat) : Own w base (.slice none 0 0) [] := World.ownsRow_nil _ _ _ _

theorem copied_any {w : World} {v : Value} {xs : List Int} (h : IntsAt w v xs) (hl : xs.length ≤ 1048576) :
    Calls Tryz.prog 61 #[v] w fun e w' => e = .returned (.slice (some ⟨w.heap.size, 0, none⟩) xs.length xs.length) ∧ Full w' w.heap.size xs ∧ Below w.heap.size w w' := by
  have h' := h
  obtain ⟨a, cap, rfl, hlc, hcm, _, hc⟩ := h
  obtain ⟨i0, hi, hz0, hz1, hz2⟩ := info_parts info
  clear hc
  go_enter Tryz.func61, Tryz.ntmps61
  go_upto_region 2 with (at_make; refine wpList_make_full _ rfl _ _ 22 rfl w.heap.size 2 i0 (.int .i64 0) 1 Tryz.underlying22 hi hz0 hz1 _ _ _ _ xs.length rfl rfl rfl rfl (by rw [hz2]; omega) (by unfold maxLen; omega) (Nat.le_refl _) ?_; intro w1 hown hgrow)
  have F0 : Full w1 w.heap.size (List.replicate xs.length 0) := own_full hown (by simp [cellsOf, toList_madeCells_one, Value.cells])
  have B0 : Below w.heap.size w w1 := (Below.refl _ _).grown hgrow (Nat.le_refl _) (fun k e => by cases e)
  have SRC := src_of (intsAt_below h' B0)
  have hn : (cellsOf xs).length = Nat.min xs.length xs.length := by rw [show Nat.min xs.length xs.length = xs.length from Nat.min_self _]; simp
  have hfit : 0 + (cellsOf xs).length ≤ (cellsOf (List.replicate xs.length 0)).length := by simp
  have hp0 : 0 < (cellsOf xs).length → some (⟨w.heap.size, 0, none⟩ : Addr) = some ⟨w.heap.size, 0, none⟩ ∧ ∃ ad, a = some ad ∧ ∀ j v, (cellsOf xs)[j]? = some v → w1.cell? (ad.add j) = some v := fun hp => ⟨rfl, SRC (by simpa using hp)⟩
  have HN : Hid _ := hn
  have HF : Hid _ := hfit
  have HP : Hid _ := hp0
  have HF0 : Hid _ := F0
  clear hown hgrow hn hfit hp0 F0 SRC
  go_wp2_with (refine wpList_copy_splice rfl (.tmp 7) (.tmp 8) 22 22 rfl 2 Tryz.underlying22 infoSize (some ⟨w.heap.size, 0, none⟩) a xs.length xs.length xs.length cap rfl rfl w.heap.size 0 (cellsOf (List.replicate xs.length 0)) 2 HF0.out (cellsOf xs) HN.out HP.out HF.out (ints_oneCell _ _) w.heap.size w B0 (Nat.le_refl _) ?_; intro w2 hF hB)
  have F2 : Full w2 w.heap.size xs := by
    have := hF.out
    rw [splice_all (by simp)] at this
    exact this
  go_ret
  exact ⟨rfl, F2, hB⟩
end Go.Proofs.YtemlagfaaibenaaGreat.rows
namespace Go.Proofs.YtemlagfaaibenaaGreat.hp
open Go.Maps
set_option linter.unusedVariables false

/-- Does a chain of notes end within so many? -/
def ends (nt : Int → Bool) (nx : Int → Int) : Nat → Int → Bool
  | 0, _ => false
  | n + 1, p => if nt p = true then ends nt nx n (nx p) else true
section
variable {nt : Int → Bool} {nx : Int → Int}
theorem ends_more : ∀ {n : Nat} {p : Int}, ends nt nx n p = true → ends nt nx (n + 1) p = true
  | 0, _, h => by cases h
  | n + 1, p, h => by
    unfold ends at h ⊢
    by_cases e : nt p = true
    · rw [if_pos e] at h ⊢
      exact ends_more h
    · rw [if_neg e]
theorem ends_le {n m : Nat} {p : Int} (h : ends nt nx n p = true) (hm : n ≤ m) : ends nt nx m p = true := by
  induction m with
  | zero => obtain rfl : n = 0 := by omega
            exact h
  | succ m ih =>
    by_cases e : n = m + 1
    · rw [← e]; exact h
    · exact ends_more (ih (by omega))
/-- It ends at all. -/
def Fins (nt : Int → Bool) (nx : Int → Int) (p : Int) : Prop := ∃ n, ends nt nx n p = true
theorem fins_next {p : Int} (h : nt p = true) : Fins nt nx p ↔ Fins nt nx (nx p) := by
  constructor
  · rintro ⟨n, hn⟩
    cases n with
    | zero => cases hn
    | succ n => unfold ends at hn; rw [if_pos h] at hn; exact ⟨n, hn⟩
  · rintro ⟨n, hn⟩
    exact ⟨n + 1, by unfold ends; rw [if_pos h]; exact hn⟩
theorem fins_stop {p : Int} (h : nt p = false) : Fins nt nx p := ⟨1, by unfold ends; rw [if_neg (by rw [h]; decide)]⟩
/-- From one to another by so many notes. -/
def Goes (nt : Int → Bool) (nx : Int → Int) : Nat → Int → Int → Prop
  | 0, p, q => p = q
  | n + 1, p, q => nt p = true ∧ Goes nt nx n (nx p) q
theorem goes_fins : ∀ {n : Nat} {p q : Int}, Goes nt nx n p q → (Fins nt nx p ↔ Fins nt nx q)
  | 0, p, q, h => by rw [show p = q from h]
  | n + 1, p, q, h => (fins_next h.1).trans (goes_fins h.2)
theorem goes_more : ∀ {n : Nat} {p q : Int}, Goes nt nx n p q → nt q = true → Goes nt nx (n + 1) p (nx q)
  | 0, p, q, h, hq => by rw [show p = q from h]; exact ⟨hq, rfl⟩
  | n + 1, p, q, h, hq => ⟨h.1, goes_more h.2 hq⟩
theorem goes_len : ∀ {m n : Nat} {p q : Int}, Goes nt nx m p q → ends nt nx n p = true → nt q = true → ∃ k, n = m + k ∧ ends nt nx k q = true
  | 0, n, p, q, h, hn, _ => ⟨n, by omega, by rw [← show p = q from h]; exact hn⟩
  | m + 1, n, p, q, h, hn, hq => by
    cases n with
    | zero => cases hn
    | succ n =>
      unfold ends at hn
      rw [if_pos h.1] at hn
      obtain ⟨k, e, hk⟩ := goes_len h.2 hn hq
      exact ⟨k, by omega, hk⟩
/-- Who comes back to itself does not end. -/
theorem round_no {m : Nat} {p : Int} (h : Goes nt nx (m + 1) p p) : ¬ Fins nt nx p := by
  rintro ⟨n, hn⟩
  induction n using Nat.strongRecOn with
  | ind n ih =>
    obtain ⟨k, e, hk⟩ := goes_len h hn h.1
    exact ih k (by omega) hk
theorem nodup_le : ∀ {l ps : List Int}, l.Nodup → (∀ x ∈ l, x ∈ ps) → l.length ≤ ps.length
  | [], _, _, _ => Nat.zero_le _
  | x :: l, ps, hn, hs => by
    obtain ⟨hx, hn⟩ := List.nodup_cons.1 hn
    have hm := hs x (List.mem_cons_self ..)
    have := nodup_le (l := l) (ps := ps.erase x) hn (fun y hy => (List.mem_erase_of_ne (fun e => hx (by rw [← e]; exact hy))).2 (hs y (List.mem_cons_of_mem _ hy)))
    rw [List.length_erase_of_mem hm] at this
    have : 0 < ps.length := List.length_pos_of_mem hm
    simp only [List.length_cons]
    omega
/-- The chain from p, as long as it takes to end. -/
theorem chain_list {ps : List Int} (hc : ∀ p ∈ ps, nt p = true → nx p ∈ ps) : ∀ {n : Nat} {p : Int}, p ∈ ps → ends nt nx (n + 1) p = true → ends nt nx n p = false → ∃ l : List Int, l.length = n + 1 ∧ l.Nodup ∧ (∀ x ∈ l, x ∈ ps) ∧ ∀ x ∈ l, ends nt nx (n + 1) x = true
  | 0, p, hp, h, _ => ⟨[p], rfl, by simp, by simpa using hp, by simpa using h⟩
  | n + 1, p, hp, h, h0 => by
    have e : nt p = true := by
      cases e : nt p
      · unfold ends at h0; rw [if_neg (by rw [e]; decide)] at h0; cases h0
      · rfl
    have h1 : ends nt nx (n + 1) (nx p) = true := by unfold ends at h; rw [if_pos e] at h; exact h
    have h2 : ends nt nx n (nx p) = false := by unfold ends at h0; rw [if_pos e] at h0; exact h0
    obtain ⟨l, a, b, c, d⟩ := chain_list hc (hc p hp e) h1 h2
    refine ⟨p :: l, by simp [a], List.nodup_cons.2 ⟨fun hm => ?_, b⟩, ?_, ?_⟩
    · rw [d p hm] at h0; cases h0
    · intro x hx
      rcases List.mem_cons.1 hx with rfl | hx
      · exact hp
      · exact c x hx
    · intro x hx
      rcases List.mem_cons.1 hx with rfl | hx
      · exact h
      · exact ends_more (d x hx)
/-- What ends at all ends within as many as there are. -/
theorem fins_len {ps : List Int} (hc : ∀ p ∈ ps, nt p = true → nx p ∈ ps) {p : Int} (hp : p ∈ ps) (h : Fins nt nx p) : ends nt nx ps.length p = true := by
  obtain ⟨n, hn⟩ := h
  induction n using Nat.strongRecOn with
  | ind n ih =>
    cases n with
    | zero => cases hn
    | succ n =>
      cases e : ends nt nx n p
      · obtain ⟨l, a, b, c, _⟩ := chain_list hc hp hn e
        have := nodup_le b c
        exact ends_le hn (by omega)
      · exact ih n (by omega) e
theorem fins_iff {ps : List Int} (hc : ∀ p ∈ ps, nt p = true → nx p ∈ ps) {p : Int} (hp : p ∈ ps) {n : Nat} (hn : ps.length ≤ n) : ends nt nx n p = true ↔ Fins nt nx p := ⟨fun h => ⟨n, h⟩, fun h => ends_le (fins_len hc hp h) hn⟩
end

/-- A place as a key. -/
abbrev kI (p : Int) : Lit := .int .i64 p
theorem kI_key (p : Int) : WideAt.IsKeyLit (kI p) := by unfold WideAt.IsKeyLit; simp
theorem kI_ne {p q : Int} (h : p ≠ q) : kI p ≠ kI q := fun e => h (by injection e)
abbrev nD (r : Int) : DataW Unit := .lit (.int .i64 r)
/-- How many places are not in the map. -/
def cntN (L : List Int) (D : DataW Unit) : Nat := (L.filter (fun p => !Maps.has D (kI p))).length
theorem cntN_start (L : List Int) : cntN L (.map []) = L.length := by simp [cntN, Maps.has]
theorem filter_less {f g : Int → Bool} (h : ∀ x, g x = true → f x = true) : ∀ l : List Int, (l.filter g).length ≤ (l.filter f).length
  | [] => Nat.le_refl _
  | x :: l => by
    have := filter_less h l
    cases e : g x
    · rw [List.filter_cons_of_neg (by rw [e]; decide)]
      cases e' : f x
      · rw [List.filter_cons_of_neg (by rw [e']; decide)]; exact this
      · rw [List.filter_cons_of_pos e']; simp only [List.length_cons]; omega
    · rw [List.filter_cons_of_pos e, List.filter_cons_of_pos (h x e)]; simp only [List.length_cons]; omega
theorem filter_one {f g : Int → Bool} (h : ∀ x, g x = true → f x = true) {y : Int} (hf : f y = true) (hg : g y = false) : ∀ l : List Int, y ∈ l → (l.filter g).length + 1 ≤ (l.filter f).length
  | [], hy => by simp at hy
  | x :: l, hy => by
    by_cases e : x = y
    · subst e
      rw [List.filter_cons_of_neg (by rw [hg]; decide), List.filter_cons_of_pos hf]
      have := filter_less h l
      simp only [List.length_cons]; omega
    · have hl : y ∈ l := by
        rcases List.mem_cons.1 hy with e' | e'
        · exact absurd e'.symm e
        · exact e'
      have := filter_one h hf hg l hl
      cases e1 : g x
      · rw [List.filter_cons_of_neg (by rw [e1]; decide)]
        cases e2 : f x
        · rw [List.filter_cons_of_neg (by rw [e2]; decide)]; exact this
        · rw [List.filter_cons_of_pos e2]; simp only [List.length_cons]; omega
      · rw [List.filter_cons_of_pos e1, List.filter_cons_of_pos (h x e1)]; simp only [List.length_cons]; omega
theorem cntN_put {L : List Int} {D : DataW Unit} (hD : Tidy D) {p : Int} (hp : p ∈ L) (hn : Maps.has D (kI p) = false) (d : DataW Unit) : cntN L (D.put (kI p) d) + 1 ≤ cntN L D := by
  unfold cntN
  refine filter_one (fun x hx => ?_) (y := p) (by rw [hn]; rfl) (by rw [Maps.has_put_same hD.isMap (kI_key _)]; rfl) L hp
  by_cases e : x = p
  · subst e
    rw [Maps.has_put_same hD.isMap (kI_key _)] at hx; cases hx
  · rwa [Maps.has_put_other (kI_ne e)] at hx
/-- Between two rounds: all that is in the map ends. -/
structure NE (nt : Int → Bool) (nx : Int → Int) (L : List Int) (k : Nat) (D : DataW Unit) : Prop where
  tidy : Tidy D
  mem : ∀ q, Maps.has D (kI q) = true → q ∈ L
  val : ∀ q, Maps.has D (kI q) = true → ∃ r : Nat, r < k ∧ D.atKey (kI q) (nD 0) = nD r
  fin : ∀ q, Maps.has D (kI q) = true → Fins nt nx q
/-- Within a round, which began at st and is at cur. -/
structure NEi (nt : Int → Bool) (nx : Int → Int) (L : List Int) (k : Nat) (D : DataW Unit) (st cur : Int) : Prop where
  tidy : Tidy D
  mem : ∀ q, Maps.has D (kI q) = true → q ∈ L
  val : ∀ q, Maps.has D (kI q) = true → ∃ r : Nat, r ≤ k ∧ D.atKey (kI q) (nD 0) = nD r ∧ (r < k → Fins nt nx q) ∧ (r = k → ∃ m, Goes nt nx (m + 1) q cur)
  path : ∃ m, Goes nt nx m st cur
section
variable {nt : Int → Bool} {nx : Int → Int} {L : List Int} {k : Nat} {D : DataW Unit} {st cur : Int}
theorem ne_start : NE nt nx L 0 (.map []) where
  tidy := Maps.tidy_empty
  mem := fun q h => by simp [Maps.has] at h
  val := fun q h => by simp [Maps.has] at h
  fin := fun q h => by simp [Maps.has] at h
theorem NE.into (h : NE nt nx L k D) (st : Int) : NEi nt nx L k D st st where
  tidy := h.tidy
  mem := h.mem
  val := fun q hq => by
    obtain ⟨r, hr, e⟩ := h.val q hq
    exact ⟨r, by omega, e, fun _ => h.fin q hq, fun e => by omega⟩
  path := ⟨0, rfl⟩
theorem NEi.stop (h : NEi nt nx L k D st cur) (hf : Fins nt nx cur) : NE nt nx L (k + 1) D ∧ Fins nt nx st := by
  refine ⟨⟨h.tidy, h.mem, fun q hq => ?_, fun q hq => ?_⟩, ?_⟩
  · obtain ⟨r, hr, e, _⟩ := h.val q hq
    exact ⟨r, by omega, e⟩
  · obtain ⟨r, hr, e, h1, h2⟩ := h.val q hq
    by_cases hk : r = k
    · obtain ⟨m, hm⟩ := h2 hk
      exact (goes_fins hm).2 hf
    · exact h1 (by omega)
  · obtain ⟨m, hm⟩ := h.path
    exact (goes_fins hm).2 hf
theorem nD_inj {a b : Int} (h : nD a = nD b) : a = b := by injection h with h; injection h
theorem NEi.round (h : NEi nt nx L k D st cur) (hh : Maps.has D (kI cur) = true) (hv : D.atKey (kI cur) (nD 0) = nD k) : ¬ Fins nt nx st := by
  obtain ⟨r, hr, e, _, h2⟩ := h.val cur hh
  have e' := nD_inj (e.symm.trans hv)
  obtain ⟨m, hm⟩ := h2 (by omega)
  obtain ⟨m', hp⟩ := h.path
  exact fun hf => round_no hm ((goes_fins hp).1 hf)
theorem NEi.old (h : NEi nt nx L k D st cur) (hh : Maps.has D (kI cur) = true) {c : Int} (hv : D.atKey (kI cur) (nD 0) = nD c) (hc : c ≠ k) : Fins nt nx cur := by
  obtain ⟨r, hr, e, h1, _⟩ := h.val cur hh
  have e' := nD_inj (e.symm.trans hv)
  exact h1 (by omega)
theorem NEi.step (h : NEi nt nx L k D st cur) (hm : cur ∈ L) (hn : nt cur = true) : NEi nt nx L k (D.put (kI cur) (nD k)) st (nx cur) := by
  refine ⟨h.tidy.put (kI_key _) _, fun q hq => ?_, fun q hq => ?_, ?_⟩
  · by_cases e : q = cur
    · rw [e]; exact hm
    · rw [Maps.has_put_other (kI_ne e)] at hq; exact h.mem q hq
  · by_cases e : q = cur
    · subst e
      exact ⟨k, Nat.le_refl _, Maps.atKey_put_same h.tidy.isMap (kI_key _) _ _, fun e => by omega, fun _ => ⟨0, hn, rfl⟩⟩
    · rw [Maps.has_put_other (kI_ne e)] at hq
      obtain ⟨r, hr, e1, h1, h2⟩ := h.val q hq
      refine ⟨r, hr, (Maps.atKey_put_other (kI_ne e) _ _).trans e1, h1, fun ek => ?_⟩
      obtain ⟨m, hg⟩ := h2 ek
      exact ⟨m + 1, goes_more hg hn⟩
  · obtain ⟨m, hp⟩ := h.path
    exact ⟨m + 1, goes_more hp hn⟩
end
end Go.Proofs.YtemlagfaaibenaaGreat.hp
namespace Go.Proofs.YtemlagfaaibenaaGreat.region
open Go Go.RowKit

theorem ovr_congr {D : Nat → Bool} {a0 : Act} {u u' : Nat → Value} (h : ∀ s, D s = true → u s = u' s) : ovr D a0 u = ovr D a0 u' := by
  unfold ovr
  congr 2
  refine List.map_congr_left fun s _ => ?_
  cases e : D s
  · rfl
  · simp [h s e]
theorem put_dummy {D : Nat → Bool} {a0 : Act} {o : Oper} {d : Nat} (ho : o.dst = none) (hd : D d = false) (u : Nat → Value) (v v' : Value) : (ovr D a0 u).put o.dst v' = ovr D a0 (upd u d v) := by
  rw [ho]
  show ovr D a0 u = _
  refine ovr_congr fun s hs => ?_
  unfold upd
  rw [if_neg]
  rintro rfl
  rw [hd] at hs
  cases hs
theorem wp_skipped {P : Program} {o : Oper} {a : Act} {w w' : World} {K : Act → World → Prop} {Q : Exit → Act → World → Prop} (h : (execOp a.eval o).run P w = .ok .skip w') (hk : K (a.put o.dst undef) w') : o.wp P a w K Q := wp_skip' h hk
section
variable {P : Program} {ops : Array Oper} {o : Oper} {D : Nat → Bool} {a0 : Act} {u : Nat → Value} {W : World} {Q : Exit → Act → World → Prop} {R : World → World → Prop} {F : Value → World → Prop} {dk : Nat}
/-- One operation that yields a value and leaves the world as it is. -/
theorem tellV {v : Value} (hg : o.guard = none) (hd : o.dst = some dk) (hD : D dk = true) (hrun : (execOp (ovr D a0 u).eval o).run P W = .ok (.value v) W) (hR : R W W) (hF : F v W) :
    (Region.wanted o (yielded ops (ovr D a0 u).tmps) = true ∧ o.wp P (ovr D a0 u) W (fun a' W' => ∃ v, a' = ovr D a0 (upd u dk v) ∧ R W W' ∧ F v W') Q) ∨ (Region.wanted o (yielded ops (ovr D a0 u).tmps) = false ∧ o.dst = some dk ∧ D dk = true ∧ F undef W) :=
  .inl ⟨wanted_none hg, wp_value hrun ⟨v, put_in hd hD u v, hR, hF⟩⟩
/-- One call. -/
theorem tellC {f : FuncId} {args : Array Value} (hg : o.guard = none) (hd : o.dst = some dk) (hD : D dk = true) (hrun : (execOp (ovr D a0 u).eval o).run P W = .ok (.enter f args) W) (hc : Calls P f args W fun e w' => ∃ v, e = .returned v ∧ R W w' ∧ F v w') :
    (Region.wanted o (yielded ops (ovr D a0 u).tmps) = true ∧ o.wp P (ovr D a0 u) W (fun a' W' => ∃ v, a' = ovr D a0 (upd u dk v) ∧ R W W' ∧ F v W') Q) ∨ (Region.wanted o (yielded ops (ovr D a0 u).tmps) = false ∧ o.dst = some dk ∧ D dk = true ∧ F undef W) :=
  .inl ⟨wanted_none hg, wp_call hrun (hc.mono fun _ _ ⟨v, he, h1, h2⟩ => ⟨v, he, v, put_in hd hD u v, h1, h2⟩)⟩
/-- One store. -/
theorem tellS {W' : World} (hg : o.guard = none) (hd : o.dst = none) (hD : D dk = false) (hrun : (execOp (ovr D a0 u).eval o).run P W = .ok .skip W') (hR : R W W') (hF : F undef W') :
    (Region.wanted o (yielded ops (ovr D a0 u).tmps) = true ∧ o.wp P (ovr D a0 u) W (fun a' W' => ∃ v, a' = ovr D a0 (upd u dk v) ∧ R W W' ∧ F v W') Q) ∨ (Region.wanted o (yielded ops (ovr D a0 u).tmps) = false ∧ o.dst = some dk ∧ D dk = true ∧ F undef W) :=
  .inl ⟨wanted_none hg, wp_skipped hrun ⟨undef, put_dummy hd hD u undef undef, hR, hF⟩⟩
end
section
variable {P : Program} {o : Oper} {D : Nat → Bool} {a0 : Act} {u : Nat → Value} {W : World} {Q : Exit → Act → World → Prop} {F : Value → World → Prop} {dk : Nat}
/-- The same where nothing is changed till the last operation (wp_region_plain): a value, a call, the store. -/
theorem plainV {v : Value} (hd : o.dst = some dk) (hD : D dk = true) (hrun : (execOp (ovr D a0 u).eval o).run P W = .ok (.value v) W) (hF : F v W) :
    o.wp P (ovr D a0 u) W (fun a' W' => ∃ v, a' = ovr D a0 (upd u dk v) ∧ Below W.heap.size W W' ∧ F v W') Q := wp_value hrun ⟨v, put_in hd hD u v, Below.refl _ _, hF⟩
theorem plainC {f : FuncId} {args : Array Value} (hd : o.dst = some dk) (hD : D dk = true) (hrun : (execOp (ovr D a0 u).eval o).run P W = .ok (.enter f args) W) (hc : Calls P f args W fun e w' => ∃ v, e = .returned v ∧ Below W.heap.size W w' ∧ F v w') :
    o.wp P (ovr D a0 u) W (fun a' W' => ∃ v, a' = ovr D a0 (upd u dk v) ∧ Below W.heap.size W W' ∧ F v W') Q := wp_call hrun (hc.mono fun _ _ ⟨v, he, h1, h2⟩ => ⟨v, he, v, put_in hd hD u v, h1, h2⟩)
theorem plainS {W' : World} (hd : o.dst = none) (hrun : (execOp (ovr D a0 u).eval o).run P W = .ok .skip W') (hQ : Q .normal (ovr D a0 u) W') :
    o.wp P (ovr D a0 u) W (fun a' W' => ∃ u', a' = ovr D a0 u' ∧ Q .normal (ovr D a0 u') W') Q := wp_skipped hrun ⟨u, put_no hd u undef, hQ⟩
end
end Go.Proofs.YtemlagfaaibenaaGreat.region
