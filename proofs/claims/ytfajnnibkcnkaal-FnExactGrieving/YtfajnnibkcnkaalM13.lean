/-
  Chapter 7 as the specification has it: what is reached, round by round. Chapter 7 as the specification has it: l7Reached and Reached. Chapter 7 as the specification has it: Reached. 'append([]int64{}, list...)': a list of its own, and nothing that there was is changed. A number into a list at a place, as the specification writes it in one statement that draws: by facts.
-/
import Derived.Test.YtfajnnibkcnkaalM12
import Derived.Test.YtfajnnibkcnkaalM8
import Derived.Deep.RegionLaw
import Derived.Deep.Cut
import Derived.Deep.CutRange
import Derived.Test.YtfajnnibkcnkaalM9
import Derived.Laws.AppendOwnNone
import Derived.Test.YtfajnnibkcnkaalM4
import Derived.Deep.Upon
import Derived.Below
import Derived.Test.YtfajnnibkcnkaalM11
import Derived.Test.YtfajnnibkcnkaalM2
import Derived.Maps.AppendAt
namespace Go.Proofs.Ytfajnnibkcnkaal.gr
open Go.RowKit rows heads
set_option maxRecDepth 100000
set_option linter.unusedVariables false

/-- What these refs lead to is in the list. -/
def goesI (xs : List Int) (l : List Rf) : Prop := ∀ r ∈ l, r.1 = 2 → r.2 ∈ xs
theorem goesI_mono {xs ys : List Int} {l : List Rf} (h : goesI xs l) (hs : ∀ a ∈ xs, a ∈ ys) : goesI ys l := fun r hr h2 => hs _ (h r hr h2)
/-- A list of Ids that are reached. -/
structure Good (G : Gr) (xs : List Int) : Prop where
  rise : Rising xs
  sound : ∀ a ∈ xs, ∃ p, Rch G p ∧ (G.objs.getD p obD).id = a
theorem good_nil (G : Gr) : Good G [] := ⟨List.Pairwise.nil, fun a h => absurd h (by simp)⟩
theorem good_put {G : Gr} {xs : List Int} (h : Good G xs) {p : Nat} (hp : Rch G p) {n : Int} (hn : (G.objs.getD p obD).id = n) : Good G (putI n xs) :=
  ⟨rising_putI h.rise, fun a ha => by
    rcases mem_putI.1 ha with e | e
    · rw [e]; exact ⟨p, hp, hn⟩
    · exact h.sound a e⟩
theorem good_len {G : Gr} (hok : gOk G = true) {xs : List Int} (h : Good G xs) : xs.length ≤ 100000 := by
  have hn := (gOk_len hok).2.2.2
  have := rising_len (N := G.next) (m := 0) h.rise (fun x hx => by
    obtain ⟨p, hp, rfl⟩ := h.sound x hx
    have hlt := rch_lt hp
    obtain ⟨h1, h2, _⟩ := obOk_lt ((right_of hok).ob p hlt)
    have h3 : 0 ≤ lastOf G.objs p := by
      match p with
      | 0 => exact Int.le_refl _
      | p + 1 =>
        show 0 ≤ (G.objs.getD p obD).id
        have hpos : ∀ j, j < G.objs.length → 0 < (G.objs.getD j obD).id := fun j => by
          induction j with
          | zero => intro hj; have := (obOk_lt ((right_of hok).ob 0 hj)).1; exact this
          | succ j ih =>
            intro hj
            have h5 := (obOk_lt ((right_of hok).ob (j + 1) hj)).1
            have h6 := ih (by omega)
            have h7 : lastOf G.objs (j + 1) = (G.objs.getD j obD).id := rfl
            omega
        have := hpos p (by omega)
        omega
    omega)
  omega
/-- The place of an Id. -/
theorem right_ref {G : Gr} (hok : gOk G = true) {r : Rf} (hr : r ∈ G.roots ++ G.mourned ∨ ∃ p, p < G.objs.length ∧ r ∈ (G.objs.getD p obD).slots) (h2 : r.1 = 2) : ledB G.objs r = true ∧ (G.objs.getD (ledP G.objs r) obD).id = r.2 := by
  have R := right_of hok
  refine led_right ?_ h2
  rcases hr with h | ⟨p, hp, h⟩
  · rcases List.mem_append.1 h with h | h
    · obtain ⟨i, hi, rfl⟩ := List.getElem_of_mem h
      have h6 := (gOk_len hok).2.1
      have := R.root i (by omega)
      rw [List.getD_eq_getElem?_getD, List.getElem?_eq_getElem hi] at this
      exact this
    · obtain ⟨i, hi, rfl⟩ := List.getElem_of_mem h
      have := (R.mo i hi).2
      rw [List.getD_eq_getElem?_getD, List.getElem?_eq_getElem hi] at this
      exact this
  · obtain ⟨i, hi, rfl⟩ := List.getElem_of_mem h
    have := R.sl p hp i hi
    rw [List.getD_eq_getElem?_getD, List.getElem?_eq_getElem hi] at this
    exact this
theorem right_key {G : Gr} (hG : gOk G = true) {p : Nat} (hp : p < G.objs.length) (hf : (G.objs.getD p obD).fmt = 2) : 0 < (G.objs.getD p obD).slots.length ∧ (G.objs.getD p obD).slots.getD 0 refD ∈ (G.objs.getD p obD).slots := by
  have h := (obOk_lt ((right_of hG).ob p hp)).2.2.2
  rw [hf] at h
  simp only [hok] at h
  rw [if_neg (by decide)] at h
  simp only [Bool.and_eq_true, Bool.or_eq_true, decide_eq_true_eq, beq_iff_eq] at h
  have h1 : 0 < (G.objs.getD p obD).slots.length := by omega
  clear h hf
  revert h1
  generalize (G.objs.getD p obD).slots = sl
  intro h1
  refine ⟨h1, ?_⟩
  rw [List.getD_eq_getElem?_getD, List.getElem?_eq_getElem h1]
  exact List.getElem_mem h1
theorem onw_mem {o : Ob} {r : Rf} (h : r ∈ onw o) : r ∈ o.slots := by
  unfold onw at h
  split at h
  · exact h
  · split at h
    · exact List.mem_of_mem_drop h
    · simp at h
/-- Nothing is left to do of the object at k. -/
def DoneI (G : Gr) (xs : List Int) (k : Nat) : Prop := (G.objs.getD k obD).id ∈ xs → (awt G.objs (G.objs.getD k obD) = none → goesI xs (onw (G.objs.getD k obD))) ∧ ∀ q, awt G.objs (G.objs.getD k obD) = some q → (G.objs.getD q obD).id ∈ xs → goesI xs (onw (G.objs.getD k obD))
/-- Where nothing is left to do, all that is reached is there. -/
theorem good_all {G : Gr} (hG : gOk G = true) {xs : List Int} (h : Good G xs) (hr : goesI xs (G.roots ++ G.mourned)) (hd : ∀ k, k < G.objs.length → DoneI G xs k) : IsR G xs := by
  have all : ∀ p, Rch G p → p < G.objs.length ∧ (G.objs.getD p obD).id ∈ xs := fun p hp => hp (fun p => p < G.objs.length ∧ (G.objs.getD p obD).id ∈ xs) (by
    refine ⟨fun r h1 hl => ⟨ledP_lt hl, ?_⟩, fun p hp ha r h1 hl => ⟨ledP_lt hl, ?_⟩, fun p q hp ha hq r h1 hl => ⟨ledP_lt hl, ?_⟩⟩
    · rw [(right_ref hG (.inl h1) (led_two hl)).2]
      exact hr r h1 (led_two hl)
    · rw [(right_ref hG (.inr ⟨p, hp.1, onw_mem h1⟩) (led_two hl)).2]
      exact (hd p hp.1 hp.2).1 ha r h1 (led_two hl)
    · rw [(right_ref hG (.inr ⟨p, hp.1, onw_mem h1⟩) (led_two hl)).2]
      exact (hd p hp.1 hp.2).2 q ha hq.2 r h1 (led_two hl))
  obtain ⟨ys, hy⟩ := isR_ex G
  have e : xs = ys := rising_ext h.rise (isR_rising hG hy) fun a => by
    rw [isR_mem hy]
    exact ⟨h.sound a, fun ⟨p, hp, e⟩ => by rw [← e]; exact (all p hp).2⟩
  rw [e]
  exact hy
theorem rise_inj {os : List Ob} (h : Rise os) {p q : Nat} (hp : p < os.length) (hq : q < os.length) (e : (os.getD p obD).id = (os.getD q obD).id) : p = q := by
  rcases Nat.lt_trichotomy p q with h1 | h1 | h1
  · have := h p q h1 hq; omega
  · exact h1
  · have := h q p h1 hp; omega
/-- From which slot on an object leads on, as the specification finds it. -/
def FromOk (o : Ob) (ys : List Int) (F : Nat) : Prop := (o.fmt = 1 ∧ F = o.slots.length) ∨ (o.fmt = 0 ∧ F = 0) ∨ (o.fmt = 2 ∧ F = 1 ∧ ¬ ((o.slots.getD 0 refD).1 = 2 ∧ (o.slots.getD 0 refD).2 ∉ ys)) ∨ (o.fmt = 2 ∧ F = o.slots.length ∧ (o.slots.getD 0 refD).1 = 2 ∧ (o.slots.getD 0 refD).2 ∉ ys)
theorem from_ok {G : Gr} (hG : gOk G = true) {k : Nat} (hk : k < G.objs.length) {ys : List Int} (hg : Good G ys) (hin : (G.objs.getD k obD).id ∈ ys) {F : Nat} (hF : FromOk (G.objs.getD k obD) ys F) :
    F ≤ (G.objs.getD k obD).slots.length ∧ (∀ r ∈ (G.objs.getD k obD).slots.drop F, r.1 = 2 → ∃ p, Rch G p ∧ (G.objs.getD p obD).id = r.2) ∧ (goesI ys ((G.objs.getD k obD).slots.drop F) → DoneI G ys k) := by
  have hR : Rch G k := by
    obtain ⟨p, hp, e⟩ := hg.sound _ hin
    rw [rise_inj (gOk_rise hG) (rch_lt hp) hk e] at hp
    exact hp
  have ref : ∀ r ∈ (G.objs.getD k obD).slots, r.1 = 2 → ledB G.objs r = true ∧ (G.objs.getD (ledP G.objs r) obD).id = r.2 := fun r hr h2 => right_ref hG (.inr ⟨k, hk, hr⟩) h2
  rcases hF with ⟨hf, rfl⟩ | ⟨hf, rfl⟩ | ⟨hf, rfl, hn⟩ | ⟨hf, rfl, h2, hn⟩
  · have eo : onw (G.objs.getD k obD) = [] := by unfold onw; rw [if_neg (by omega), if_neg (by omega)]
    refine ⟨Nat.le_refl _, fun r hr => by simp at hr, fun _ _ => ⟨fun _ => by rw [eo]; exact fun r hr => absurd hr (by simp), fun q _ _ => by rw [eo]; exact fun r hr => absurd hr (by simp)⟩⟩
  · have eo : onw (G.objs.getD k obD) = (G.objs.getD k obD).slots := by unfold onw; rw [if_pos hf]
    have ea : awt G.objs (G.objs.getD k obD) = none := by unfold awt; rw [if_neg (by omega)]
    refine ⟨Nat.zero_le _, fun r hr h2 => ?_, fun hgo _ => ⟨fun _ => by rw [eo]; exact hgo, fun q e _ => (by rw [ea] at e; cases e)⟩⟩
    rw [List.drop_zero] at hr
    exact ⟨_, Rch.on0 k hR ea r (by rw [eo]; exact hr) (ref r hr h2).1, (ref r hr h2).2⟩
  · have eo : onw (G.objs.getD k obD) = (G.objs.getD k obD).slots.drop 1 := by unfold onw; rw [if_neg (by omega), if_pos hf]
    obtain ⟨h0, hm⟩ := right_key hG hk hf
    refine ⟨h0, fun r hr h2 => ?_, fun hgo _ => ⟨fun _ => by rw [eo]; exact hgo, fun q _ _ => by rw [eo]; exact hgo⟩⟩
    have hr' := List.mem_of_mem_drop hr
    have hl := ref r hr' h2
    cases ha : awt G.objs (G.objs.getD k obD) with
    | none => exact ⟨_, Rch.on0 k hR ha r (by rw [eo]; exact hr) hl.1, hl.2⟩
    | some q =>
      have hq : Rch G q := by
        unfold awt at ha
        split at ha
        · rename_i hc
          injection ha with ha
          have h22 := led_two hc.2
          have hin2 : ((G.objs.getD k obD).slots.getD 0 refD).2 ∈ ys := by
            apply Classical.byContradiction
            intro hno
            exact hn ⟨h22, hno⟩
          obtain ⟨p, hp, e⟩ := hg.sound _ hin2
          have e2 := (ref _ hm h22).2
          rw [ha] at e2
          have hqlt : q < G.objs.length := by rw [← ha]; exact ledP_lt hc.2
          rw [rise_inj (gOk_rise hG) (rch_lt hp) hqlt (e.trans e2.symm)] at hp
          exact hp
        · cases ha
      exact ⟨_, Rch.on1 k q hR ha hq r (by rw [eo]; exact hr) hl.1, hl.2⟩
  · obtain ⟨h0, hm⟩ := right_key hG hk hf
    have hl := ref _ hm h2
    have ea : awt G.objs (G.objs.getD k obD) = some (ledP G.objs ((G.objs.getD k obD).slots.getD 0 refD)) := by unfold awt; rw [if_pos ⟨hf, hl.1⟩]
    refine ⟨Nat.le_refl _, fun r hr => by simp at hr, fun _ _ => ⟨fun e => (by rw [ea] at e; cases e), fun q e hq => ?_⟩⟩
    rw [ea] at e
    injection e with e
    rw [← e, hl.2] at hq
    exact absurd hq hn
theorem isR_unique {G : Gr} {xs ys : List Int} (h : IsR G xs) (h' : IsR G ys) : xs = ys := by
  obtain ⟨f, hf, rfl⟩ := h'
  exact isR_eq h hf
end Go.Proofs.Ytfajnnibkcnkaal.gr
namespace Go.Proofs.Ytfajnnibkcnkaal.gr
open Go.RowKit rows heads
set_option maxRecDepth 100000
set_option linter.unusedVariables false

/-- append of refs onto a row of the call's own, whatever the other list, as one step of a region that draws. -/
theorem step_appR {ops : Array Oper} {o : Oper} {a : Act} {w : World} {K : Act → World → Prop} {Q : Exit → Act → World → Prop} {E : Prop} (hgd : o.guard = none) (s x : Operand)
    (ho : o.op = .call { callee := .builtin .append, args := #[s, x], argTypes := #[30, 30] })
    (base : Nat) (v : Value) (es : List Rf) (hs : a.eval s = v) (hown : OwnR w base v es) (av : Option Addr) (nv cv : Nat) (fs : List Rf) (hx : a.eval x = .slice av nv cv) (hR : RefsAt w (.slice av nv cv) fs)
    (hb : es.length + fs.length ≤ 1048576) (hbase : base ≤ w.heap.size)
    (h : ∀ v' w', OwnR w' base v' (es ++ fs) → Ch (blk v) w w' → (∀ k ∈ blk v', k ∈ blk v ∨ w.heap.size ≤ k) → K (a.put o.dst v') w') :
    if Region.wanted o (yielded ops a.tmps) = true then Oper.wp Try.prog o a w K Q else E := by
  obtain ⟨i0, hi, hz0, hz1, hz2⟩ := info_parts infoR
  obtain ⟨hn, hnone⟩ := refs_len hR
  cases av with
  | none =>
    have e0 := hnone rfl
    obtain ⟨a', c', e', _, _, h3, _⟩ := id hR
    injection e' with e1 e2 e3
    subst e1 e3
    have ec := h3 rfl
    have ef : fs = [] := List.eq_nil_of_length_eq_zero (by omega)
    subst ec ef e0
    have hw : Region.wanted o (yielded ops a.tmps) = true := by simp [Region.wanted, hgd]
    rw [if_pos hw]
    have hrun := run_append_owned_none (P := Try.prog) (w := w) base 30 o.type 80 i0 2 Try.underlying30 hi v es.length (cellsR es) hown
    have hk := h v w (by rw [List.append_nil]; exact hown) (Ch.refl _ _) (fun k hk => .inl hk)
    unfold Oper.wp
    simp [execOp, ho, resolve, invoke, builtin, hs, hx, hrun, Result.andThen]
    exact hk
  | some ad =>
    subst hn
    refine step_app_at hgd s x 30 ho base 80 i0 (.agg #[.int .i64 0, .int .i64 0]) 2 16 Try.underlying30 hi hz0 hz1 hz2 rfl (by decide) v es.length (cellsR es) hs hown ad fs.length cv (cellsR fs) hx (cellsR_length _) (refs_news hR) (cellsR_one _) (by unfold maxLen; omega) (by omega) hbase ?_
    intro v' w' hrow hg hat
    refine h v' w' (by unfold OwnR; rw [List.length_append, cellsR_append]; exact hrow) (ch_grown hg) fun k hk => ?_
    unfold blk at hk ⊢
    rcases hat with e | e
    · rw [e] at hk; exact .inl hk
    · rw [e] at hk; simp at hk; exact .inr (by omega)
theorem step_app0 {ops : Array Oper} {o : Oper} {act : Act} {w : World} {K : Act → World → Prop} {Q : Exit → Act → World → Prop} {E : Prop} {g : Nat} {a : Option Addr} {n cap : Nat} {es : List Rf}
    (h : RefsAt w (.slice a n cap) es) (hl : n ≤ 1048576) (hg : w.heap[g]? = some (.cells #[] 80 (0, 0))) (hgd : o.guard = none) (s x : Operand) (ho : o.op = .call { callee := .builtin .append, args := #[s, x], argTypes := #[30, 30] })
    (hs : act.eval s = .slice (some ⟨g, 0, none⟩) 0 0) (hx : act.eval x = .slice a n cap)
    (k : ∀ q c w', (q = g ∨ w.heap.size ≤ q) → (∀ base, base ≤ q → OwnR w' base (.slice (some ⟨q, 0, none⟩) n c) es) → Below w.heap.size w w' → K (act.put o.dst (.slice (some ⟨q, 0, none⟩) n c)) w') :
    if Region.wanted o (yielded ops act.tmps) = true then Oper.wp Try.prog o act w K Q else E := by
  have hw : Region.wanted o (yielded ops act.tmps) = true := by simp [Region.wanted, hgd]
  rw [if_pos hw]
  obtain ⟨q, c, w', hr, h1, h2, h3⟩ := run_app0 h hl hg o.type
  unfold Oper.wp
  simp [execOp, ho, resolve, invoke, builtin, hs, hx, hr, Result.andThen]
  exact k q c w' h1 h2 h3
theorem at_newS {X : World} {o : Obj} {k : Nat} (h : k = X.heap.size) : (X.alloc o).heap[k]? = some o := by subst h; exact heap_alloc_new _ _
theorem ints_sl {w : World} {v : Value} {xs : List Int} (h : IntsAt w v xs) : ∃ a n c, v = .slice a n c := by
  obtain ⟨a, c, e, _⟩ := h
  exact ⟨a, _, c, e⟩
/-- How long a slice is. -/
def slen : Value → Nat
  | .slice _ n _ => n
  | _ => 0

set_option maxHeartbeats 16000000 in
theorem l7Reached_any {w : World} {o r m : Value} {ms : List MO} {G : Gr} (h : GraphAt w o r m ms G) (hok : gOk G = true) {zs : List Int} (hz : IsR G zs) :
    Calls Try.prog 30 #[gv o r m G.next G.seed] w fun e w' => ∃ v, e = .returned v ∧ Own w' w.heap.size v zs ∧ Below w.heap.size w w' := by
  obtain ⟨a1, n1, c1, a2, n2, c2, a3, n3, c3, e1, e2, e3⟩ := graphAt_slices h
  subst e1 e2 e3
  have hlen := graphAt_len h
  obtain ⟨h200, h6, h40, hN1, hN2, _⟩ := gOk_len hok
  obtain ⟨hn2, _⟩ := refs_len h.2.2.1
  obtain ⟨hn3, _⟩ := refs_len h.2.2.2
  have B1 : Below w.heap.size w ((w.alloc (gb (.slice a1 n1 c1) (.slice a2 n2 c2) (.slice a3 n3 c3) G.next G.seed)).alloc (.cells #[] 2)) := ((Below.refl _ w).alloc (Nat.le_refl _) _).alloc (by simp) _
  have T1 : Five ((w.alloc (gb (.slice a1 n1 c1) (.slice a2 n2 c2) (.slice a3 n3 c3) G.next G.seed)).alloc (.cells #[] 2)) w.heap.size 32 (.slice a1 n1 c1) (.slice a2 n2 c2) (.slice a3 n3 c3) (.int .i64 G.next) (.int .i64 G.seed) := five_below (five_new w _ _ _ _ _ _) ((Below.refl _ _).alloc (Nat.le_refl _) _)
  have O1 : Own ((w.alloc (gb (.slice a1 n1 c1) (.slice a2 n2 c2) (.slice a3 n3 c3) G.next G.seed)).alloc (.cells #[] 2)) w.heap.size (.slice (some ⟨w.heap.size + 1, 0, none⟩) 0 0) [] := by
    refine ⟨rfl, .inr ⟨w.heap.size + 1, 0, #[], rfl, by omega, ?_, Nat.le_refl _, by decide, rfl, rfl⟩⟩
    exact at_newS (by simp)
  have HG : Hid _ := h
  have HOK : Hid _ := hok
  have HZ : Hid _ := hz
  have HO1 : Hid _ := O1
  have HB1 : Hid _ := B1
  have HT1 : Hid _ := T1
  have sX : w.heap.size + 2 = ((w.alloc (gb (.slice a1 n1 c1) (.slice a2 n2 c2) (.slice a3 n3 c3) G.next G.seed)).alloc (.cells #[] 2)).heap.size := by simp
  clear h hok hz O1 B1 T1
  generalize hgn : G.next = gn at *
  generalize hgs : G.seed = gs at *
  go_enter Try.func30, Try.ntmps30
  go_wp2_with fail
  generalize hX : ((w.alloc (gb (.slice a1 n1 c1) (.slice a2 n2 c2) (.slice a3 n3 c3) gn gs)).alloc (.cells #[] 2)) = X1 at *
  clear hX
  have NL : Below X1.heap.size X1 (X1.alloc (.cells #[] 80)).drew := ((Below.refl _ _).alloc (Nat.le_refl _) _).drew
  obtain ⟨z0, z1, z2, z3, z4, _⟩ := five_cells HT1.out
  obtain ⟨y0, y1, y2, y3, y4, _⟩ := five_cells (five_below HT1.out ((Below.refl _ X1).alloc (Nat.le_refl _) (.cells #[] 80)))
  have HLIT : Hid ((X1.alloc (.cells #[] 80)).drew.heap[X1.heap.size]? = some (.cells #[] 80 (0, 0))) := heap_alloc_new X1 _
  have HRO : Hid (RefsAt (X1.alloc (.cells #[] 80)).drew (.slice a2 n2 c2) G.roots) := refsAt_below HG.out.2.2.1 (HB1.out.trans (NL.mono HB1.out.size))
  have HNL : Hid _ := NL
  clear NL
  go_cut [4] from 12 to 18 (fun v wx => ∃ av nv cv, v = .slice av nv cv ∧ Hid (RefsAt wx (.slice av nv cv) (G.roots ++ G.mourned)) ∧ Hid (Below X1.heap.size X1 wx))
  case first =>
    go_region_law (first
      | (refine step_app0 HRO.out (by omega) HLIT.out rfl (.tmp 12) (.tmp 14) rfl rfl rfl ?_
         intro q c w3 hq hO hb
         have B3 := HNL.out.trans (hb.mono HNL.out.size)
         have hqs : X1.heap.size ≤ q := (by rcases hq with e | e; omega; exact Nat.le_trans HNL.out.size e)
         have OW3 := hO X1.heap.size hqs
         have HM3 : Hid _ := refsAt_below HG.out.2.2.2 (HB1.out.trans (B3.mono HB1.out.size))
         obtain ⟨x0, x1, x2, x3, x4, _⟩ := five_cells (five_below HT1.out B3)
         have HB3 : Hid _ := B3
         have HOW3 : Hid _ := OW3
         have hs3 := B3.size
         clear hq hO hb B3 OW3 hqs)
      | (refine step_appR rfl (.tmp 15) (.tmp 17) rfl X1.heap.size _ G.roots rfl HOW3.out a3 n3 c3 G.mourned rfl HM3.out (by omega) hs3 ?_
         intro v' w4 hO4 hc4 hk4
         obtain ⟨av, nv, cv, rfl⟩ := refs_slice (ownR_refs hO4)
         have HR4 : Hid _ := ownR_refs hO4
         have HB4 : Hid (Below X1.heap.size X1 w4) := HB3.out.trans (below_ch hc4 hs3 (fun k hk => (blk_lt HOW3.out k hk).1))
         clear hO4 hc4 hk4))
    all_goals go_wp2
    all_goals go_meet
    all_goals exact ⟨av, nv, cv, rfl, HR4, HB4⟩
  obtain ⟨av, nv, cv, rfl, HALL, HBX⟩ := hcut
  obtain ⟨X2, hX2⟩ : ∃ X2, X2 = wc := ⟨_, rfl⟩
  subst hX2
  clear z0 z1 z2 z3 z4 y0 y1 y2 y3 y4 HLIT HRO HNL
  obtain ⟨hnv, _⟩ := refs_len HALL.out
  have hLL : (G.roots ++ G.mourned).length ≤ 46 := by rw [List.length_append]; omega
  have HMEM : Hid (∀ r ∈ G.roots ++ G.mourned, r.1 = 2 → ∃ p, Rch G p ∧ (G.objs.getD p obD).id = r.2) := fun r hr h2 => ⟨_, Rch.root r hr (right_ref HOK.out (.inl hr) h2).1, (right_ref HOK.out (.inl hr) h2).2⟩
  have HO2 : Hid (Own X2 w.heap.size (.slice (some ⟨w.heap.size + 1, 0, none⟩) 0 0) []) := own_below HO1.out HBX.out
  have HB2 : Hid (Below w.heap.size w X2) := HB1.out.trans (HBX.out.mono HB1.out.size)
  have HT2 : Hid _ := five_below HT1.out HBX.out
  have sz2 := HB2.out.size
  clear HO1 HB1 HT1 HBX sX
  subst hnv
  generalize hL : G.roots ++ G.mourned = L at *
  obtain ⟨ao, co, eo, _⟩ := HG.out.2.1.1
  injection eo with e1 e2 e3
  subst e1 e2 e3
  have HGL : Hid (∀ xs, Good G xs → xs.length ≤ 100000) := fun xs hx => good_len HOK.out hx
  have HLEN : Hid _ := hlen
  have hms : ms.length ≤ 200 := by omega
  have HLL : Hid _ := hL
  clear hlen hn2 hn3 h6 h40 hL h200 hgn hgs
  go_wp2_with fail
  go_loopw [3, 5] (fun v p wr => ∃ (k : Nat) (vv : Value) (xs : List Int), vv = v ∧ k ≤ L.length ∧ p = .int .i64 k ∧ Own wr w.heap.size vv xs ∧ Good G xs ∧ goesI xs (L.take k) ∧ Below X2.heap.size X2 wr) (fun _ p _ => L.length - (intOf p).toNat)
  case atStart => exact ⟨0, _, [], rfl, Nat.zero_le _, rfl, HO2.out, good_nil G, fun r hr => absurd hr (by simp), Below.refl _ _⟩
  case round =>
    obtain ⟨k, vv, xs, rfl, hk, rfl, hO, hgood, hgo, hB⟩ := hrel
    by_cases hlt : k < L.length
    · obtain ⟨a', cap', e, _, _, _, hc⟩ := refsAt_below HALL.out hB
      injection e with e1 e2 e3
      subst e1 e3
      obtain ⟨b, off, rfl, hb, hcc⟩ := hc (by omega)
      obtain ⟨y0, y1⟩ := hcc k hlt
      have htk := take_next hlt
      have hme : L.getD k refD ∈ L := by rw [List.getD_eq_getElem?_getD, List.getElem?_eq_getElem hlt]; exact List.getElem_mem hlt
      clear hc hcc e2
      generalize L.getD k refD = e0 at *
      obtain ⟨ek, en⟩ := e0
      simp only at y0 y1
      have HO : Hid _ := hO
      have HGD : Hid _ := hgood
      have HGO : Hid _ := hgo
      have HB : Hid _ := hB
      by_cases he : ek = 2
      · subst he
        have hgl := HGL.out xs hgood
        have sB := hB.size
        have PT := l1Put_any hO (by omega) (by omega) en
        have HGP : Hid (Good G (putI en xs)) := by
          obtain ⟨p, hp, e⟩ := HMEM.out _ hme rfl
          exact good_put hgood hp e
        have HGG : Hid (goesI (putI en xs) (L.take (k + 1))) := fun r hr h2 => by
          rw [htk] at hr
          rcases List.mem_append.1 hr with e | e
          · exact mem_putI.2 (.inr (hgo r e h2))
          · rw [List.mem_singleton.1 e]; exact mem_putI.2 (.inl rfl)
        obtain ⟨va, vn, vc, hvv⟩ := ints_sl (own_ints hO)
        subst hvv
        clear hO hgood hgo hB htk hme hgl
        go_wp2_with (go_at_call 61; refine PT.mono ?_; clear PT; rintro e w4 ⟨v4, rfl, o4, b4⟩; obtain ⟨va4, vn4, vc4, rfl⟩ := ints_sl (own_ints o4); have HO4 : Hid _ := o4; have HB4 : Hid _ := HB.out.trans (b4.mono sB); clear o4 b4)
        exact ⟨⟨k + 1, _, _, rfl, by omega, by go_num, HO4.out, HGP.out, HGG.out, HB4.out⟩, by simp [intOf]; omega⟩
      · have he' : (ek == 2) = false := by simpa using he
        have HGG : Hid (goesI xs (L.take (k + 1))) := fun r hr h2 => by
          rw [htk] at hr
          rcases List.mem_append.1 hr with e | e
          · exact hgo r e h2
          · rw [List.mem_singleton.1 e] at h2; exact absurd h2 he
        clear hO hgood hgo hB htk hme he
        go_wp2
        exact ⟨⟨k + 1, vv, xs, rfl, by omega, by go_num, HO.out, HGD.out, HGG.out, HB.out⟩, by simp [intOf]; omega⟩
    · have e : k = L.length := by omega
      subst e
      rw [List.take_length] at hgo
      have HO : Hid _ := hO
      have HGD : Hid _ := hgood
      have HGO : Hid _ := hgo
      have HB : Hid _ := hB
      obtain ⟨va, vn, vc, hvv⟩ := ints_sl (own_ints hO)
      subst hvv
      clear hO hgood hgo hB
      go_wp2_with fail
      go_loopw [3] (fun v wr => ∃ (vv : Value) (xs : List Int), vv = v ∧ Own wr w.heap.size vv xs ∧ Good G xs ∧ goesI xs L ∧ Below X2.heap.size X2 wr) (fun v _ => 100001 - slen v)
      case atStart => exact ⟨_, xs, rfl, HO.out, HGD.out, HGO.out, HB.out⟩
      case round =>
        clear HO HGD HGO HB
        obtain ⟨vv, xs, rfl, hO, hgood, hgo, hB⟩ := hrel
        have hgl := HGL.out xs hgood
        obtain ⟨va, vc, hvv⟩ : ∃ a c, vv = .slice a xs.length c := by
          obtain ⟨a, c, e, _⟩ := own_ints hO
          exact ⟨a, c, e⟩
        subst hvv
        have HO : Hid _ := hO
        have HGD : Hid _ := hgood
        have HGO : Hid _ := hgo
        have HB : Hid _ := hB
        clear hO hgood hgo hB
        go_wp2_with fail
        go_loopw [3, 7] (fun v p wr => ∃ (k : Nat) (vv : Value) (ys : List Int), vv = v ∧ k ≤ ms.length ∧ p = .int .i64 k ∧ Own wr w.heap.size vv ys ∧ Good G ys ∧ goesI ys L ∧ xs.length ≤ ys.length ∧ (ys.length = xs.length → ys = xs ∧ ∀ j, j < k → DoneI G xs j) ∧ Below X2.heap.size X2 wr) (fun _ p _ => ms.length - (intOf p).toNat)
        case atStart => exact ⟨0, _, xs, rfl, Nat.zero_le _, rfl, HO.out, HGD.out, HGO.out, Nat.le_refl _, fun _ => ⟨rfl, fun j hj => by omega⟩, HB.out⟩
        case round =>
          clear HO HGO HB
          obtain ⟨k, vv, ys, rfl, hk, rfl, hO, hgood, hgo, hle, hsame, hB⟩ := hrel
          have hgl2 := HGL.out ys hgood
          obtain ⟨va2, vc2, hvv⟩ : ∃ a c, vv = .slice a ys.length c := by
            obtain ⟨a, c, e, _⟩ := own_ints hO
            exact ⟨a, c, e⟩
          subst hvv
          obtain ⟨q0, _⟩ := five_cells (five_below HT2.out hB)
          have HO : Hid _ := hO
          have HGY : Hid _ := hgood
          have HGO : Hid _ := hgo
          have HSM : Hid _ := hsame
          have HB : Hid _ := hB
          by_cases hlt : k < ms.length
          · obtain ⟨ao, co, eo, _, _, _, hco⟩ := orowAt_below HG.out.2.1.1 (HB2.out.trans (hB.mono sz2))
            injection eo with e1 e2 e3
            subst e1 e3
            obtain ⟨b1, off1, rfl, hb1, hcc1⟩ := hco (by omega)
            obtain ⟨x0, x1, x2, x3, x4⟩ := hcc1 k hlt
            have hmo : (ms.getD k moD).abs = G.objs.getD k obD := graphAt_get HG.out k
            have hsv := refsAt_below (HG.out.2.1.2 _ (mem_getD hlt)) (HB2.out.trans (hB.mono sz2))
            obtain ⟨sa, sc, hsl, _⟩ := id hsv
            have hkG : k < G.objs.length := by rw [← HLEN.out]; exact hlt
            have hs20 : (ms.getD k moD).slots.length ≤ 20 := by
              have := (right_obj HOK.out hkG).2.1
              rw [← hmo] at this
              exact this
            have HFK : Hid (∀ ys, Good G ys → (ms.getD k moD).id ∈ ys → ∀ F, FromOk (ms.getD k moD).abs ys F → F ≤ (ms.getD k moD).slots.length ∧ (∀ r ∈ (ms.getD k moD).slots.drop F, r.1 = 2 → ∃ p, Rch G p ∧ (G.objs.getD p obD).id = r.2) ∧ (goesI ys ((ms.getD k moD).slots.drop F) → DoneI G ys k)) := fun ys hg hin F hF => by
              have hin' : (G.objs.getD k obD).id ∈ ys := by rw [← hmo]; exact hin
              have hF' : FromOk (G.objs.getD k obD) ys F := by rw [← hmo]; exact hF
              have := from_ok HOK.out hkG hg hin' hF'
              rw [← hmo] at this
              exact this
            have HKEY : Hid ((ms.getD k moD).fmt = 2 → 0 < (ms.getD k moD).slots.length) := fun e => by
              have h1 := (right_key HOK.out hkG (by rw [← hmo]; exact e)).1
              rw [← hmo] at h1
              exact h1
            have HFMT : Hid ((ms.getD k moD).fmt = 0 ∨ (ms.getD k moD).fmt = 1 ∨ (ms.getD k moD).fmt = 2) := by
              obtain ⟨_, _, h2, h3⟩ := obOk_lt ((right_of HOK.out).ob k hkG)
              have h4 := hok_true h3
              have e : (ms.getD k moD).fmt = (G.objs.getD k obD).fmt := by rw [← hmo]; rfl
              show _ ∨ _ ∨ _
              omega
            have HNO : Hid ((ms.getD k moD).id ∉ ys → DoneI G ys k) := fun hno hin => absurd (by rw [← hmo] at hin; exact hin) hno
            clear hmo hco hcc1
            generalize ms.getD k moD = mo at *
            obtain ⟨mi, mc, mf, mh, msv, msl⟩ := mo
            simp only at x0 x1 x2 x3 x4 hsl hsv hs20 HFK HKEY HFMT HNO
            subst hsl
            have BY : Below wr.heap.size wr (wr.alloc (ob ⟨mi, mc, mf, mh, .slice sa msl.length sc, msl⟩)) := (Below.refl _ _).alloc (Nat.le_refl _) _
            have TY := five_new wr 51 (.int .i64 mi) (.int .i64 mc) (.int .i64 mf) (.int .i64 mh) (.slice sa msl.length sc)
            have OY := own_below hO BY
            have HS := l1Has_any (own_ints OY) (by omega) mi
            have HBY : Hid _ := hB.trans (BY.mono hB.size)
            have HTY : Hid _ := TY
            have HOY : Hid _ := OY
            have HSVY : Hid _ := refsAt_below hsv BY
            clear hO hgood hgo hsame hB hsv BY TY OY e2
            go_wp2_with fail
            generalize hYY : (wr.alloc (ob ⟨mi, mc, mf, mh, .slice sa msl.length sc, msl⟩)) = Y at *
            generalize hPP : wr.heap.size = P8 at *
            clear hYY
            refine HS.mono ?_
            rintro e w4 ⟨rfl, hw4⟩
            rw [hw4]
            clear HS hw4 q0 x0 x1 x2 x3 x4
            by_cases hin : mi ∈ ys
            · rw [decide_eq_true hin]
              obtain ⟨t0, t1, t2, t3, t4, _⟩ := five_cells HTY.out
              rcases HFMT.out with hf | hf | hf
              · subst hf
                obtain ⟨hFl, hsf, hdf⟩ := HFK.out ys HGY.out hin 0 (.inr (.inl ⟨rfl, rfl⟩))
                have HSF : Hid _ := hsf
                have HDF : Hid _ := hdf
                clear hsf hdf HFK HKEY HFMT HNO
                go_wp2_with fail
                go_loopw [3, 10] (fun v p wr => ∃ (i : Nat) (vv : Value) (us : List Int), vv = v ∧ i ≤ msl.length ∧ 0 ≤ i ∧ p = .int .i64 i ∧ Own wr w.heap.size vv us ∧ Good G us ∧ goesI us L ∧ ys.length ≤ us.length ∧ (us.length = ys.length → us = ys ∧ ∀ j, 0 ≤ j → j < i → (msl.getD j refD).1 = 2 → (msl.getD j refD).2 ∈ ys) ∧ Below X2.heap.size X2 wr ∧ Below Y.heap.size Y wr) (fun _ p _ => msl.length - (intOf p).toNat)
                case atStart => exact ⟨0, _, ys, rfl, hFl, Nat.le_refl _, by go_num, HOY.out, HGY.out, HGO.out, Nat.le_refl _, fun _ => ⟨rfl, fun j h1 h2 => absurd h2 (by omega)⟩, HBY.out, Below.refl _ _⟩
                case round =>
                  obtain ⟨i, vv, us, rfl, hi, hFi, rfl, hO, hgood, hgo, hle2, hsm2, hB, hBY⟩ := hrel
                  have hgl3 := HGL.out us hgood
                  obtain ⟨va3, vc3, hvv⟩ : ∃ a c, vv = .slice a us.length c := by
                    obtain ⟨a, c, e, _⟩ := own_ints hO
                    exact ⟨a, c, e⟩
                  subst hvv
                  obtain ⟨_, _, _, _, t4, _⟩ := five_cells (five_below HTY.out hBY)
                  have HO4 : Hid _ := hO
                  have HG4 : Hid _ := hgood
                  have HGO4 : Hid _ := hgo
                  have HSM4 : Hid _ := hsm2
                  have HB4 : Hid _ := hB
                  have HBY4 : Hid _ := hBY
                  by_cases hlt4 : i < msl.length
                  · obtain ⟨a', cap', e, _, _, _, hc⟩ := refsAt_below HSVY.out hBY
                    injection e with e1 e2 e3
                    subst e1 e3
                    obtain ⟨b4, off4, e4, hb4, hcc4⟩ := hc (by omega)
                    subst e4
                    obtain ⟨y0, y1⟩ := hcc4 i hlt4
                    have hme : msl.getD i refD ∈ msl.drop 0 := by
                      rw [List.getD_eq_getElem?_getD, List.getElem?_eq_getElem hlt4]
                      exact List.mem_iff_getElem.2 ⟨i - 0, by rw [List.length_drop]; omega, by rw [List.getElem_drop]; exact getElem_congr_idx (by omega)⟩
                    have hput := HSF.out _ hme
                    have HNXN : Hid (¬ (msl.getD i refD).1 = 2 → us.length = ys.length → us = ys ∧ ∀ j, 0 ≤ j → j < i + 1 → (msl.getD j refD).1 = 2 → (msl.getD j refD).2 ∈ ys) := fun hn e => by
                      obtain ⟨e1, h1⟩ := HSM4.out e
                      refine ⟨e1, fun j h2 h3 h4 => ?_⟩
                      by_cases ej : j = i
                      · rw [ej] at h4; exact absurd h4 hn
                      · exact h1 j h2 (by omega) h4
                    have HNXY : Hid ((putI (msl.getD i refD).2 us).length = ys.length → putI (msl.getD i refD).2 us = ys ∧ ∀ j, 0 ≤ j → j < i + 1 → (msl.getD j refD).1 = 2 → (msl.getD j refD).2 ∈ ys) := fun e => by
                      have hl := @len_putI (msl.getD i refD).2 us
                      have eu : us.length = ys.length := by omega
                      obtain ⟨e1, h1⟩ := HSM4.out eu
                      have e2 := hl.2.2 (by omega)
                      refine ⟨e2.trans e1, fun j h2 h3 h4 => ?_⟩
                      by_cases ej : j = i
                      · have : (msl.getD i refD).2 ∈ putI (msl.getD i refD).2 us := mem_putI.2 (.inl rfl)
                        rw [e2, e1] at this
                        rw [ej]
                        exact this
                      · exact h1 j h2 (by omega) h4
                    clear hc hcc4 e2 hme
                    generalize msl.getD i refD = e0 at *
                    obtain ⟨ek, en⟩ := e0
                    simp only at y0 y1 hput HNXN HNXY
                    by_cases he : ek = 2
                    · subst he
                      have sB := hB.size
                      have sBY := hBY.size
                      have PT := l1Put_any hO (by omega) (by omega) en
                      have HGP : Hid (Good G (putI en us)) := by
                        obtain ⟨p, hp, e⟩ := hput rfl
                        exact good_put hgood hp e
                      have HGG : Hid (goesI (putI en us) L) := goesI_mono hgo (fun a ha => mem_putI.2 (.inr ha))
                      have HLE : Hid (ys.length ≤ (putI en us).length) := Nat.le_trans hle2 (@len_putI en us).1
                      clear hO hgood hgo hsm2 hB hBY hput HNXN
                      go_wp2_with (go_at_call 61; refine PT.mono ?_; clear PT; rintro e w5 ⟨v5, rfl, o5, b5⟩; obtain ⟨va5, vn5, vc5, rfl⟩ := ints_sl (own_ints o5); have HO5 : Hid _ := o5; have HB5 : Hid _ := HB4.out.trans (b5.mono sB); have HBY5 : Hid _ := HBY4.out.trans (b5.mono sBY); clear o5 b5)
                      exact ⟨⟨i + 1, _, _, rfl, by omega, by omega, by go_num, HO5.out, HGP.out, HGG.out, HLE.out, HNXY.out, HB5.out, HBY5.out⟩, by simp [intOf]; omega⟩
                    · have he' : (ek == 2) = false := by simpa using he
                      have HNX2 : Hid _ := HNXN.out he
                      clear hO hgood hgo hsm2 hB hBY hput HNXN HNXY he
                      go_wp2
                      exact ⟨⟨i + 1, _, us, rfl, by omega, by omega, by go_num, HO4.out, HG4.out, HGO4.out, hle2, HNX2.out, HB4.out, HBY4.out⟩, by simp [intOf]; omega⟩
                  · have e : i = msl.length := by omega
                    subst e
                    have HX : Hid (us.length = xs.length → us = xs ∧ ∀ j, j < k + 1 → DoneI G xs j) := fun e => by
                      obtain ⟨e1, h1⟩ := HSM4.out (by omega)
                      obtain ⟨e2, h2⟩ := HSM.out (by omega)
                      refine ⟨e1.trans e2, fun j hj => ?_⟩
                      by_cases ej : j = k
                      · rw [ej, ← e2]
                        refine HDF.out fun r hr h3 => ?_
                        obtain ⟨n', hn', rfl⟩ := List.getElem_of_mem hr
                        rw [List.length_drop] at hn'
                        rw [List.getElem_drop] at h3 ⊢
                        have hq := h1 (0 + n') (by omega) (by omega)
                        rw [List.getD_eq_getElem?_getD, List.getElem?_eq_getElem (by omega)] at hq
                        exact hq h3
                      · exact h2 j (by omega)
                    clear hO hgood hgo hsm2 hB hBY
                    go_wp2
                    exact ⟨⟨k + 1, _, us, rfl, by omega, by go_num, HO4.out, HG4.out, HGO4.out, by omega, HX.out, HB4.out⟩, by simp [intOf]; omega⟩
              · subst hf
                obtain ⟨hFl, hsf, hdf⟩ := HFK.out ys HGY.out hin msl.length (.inl ⟨rfl, rfl⟩)
                have HSF : Hid _ := hsf
                have HDF : Hid _ := hdf
                clear hsf hdf HFK HKEY HFMT HNO
                go_wp2_with fail
                go_loopw [3, 10] (fun v p wr => ∃ (i : Nat) (vv : Value) (us : List Int), vv = v ∧ i ≤ msl.length ∧ msl.length ≤ i ∧ p = .int .i64 i ∧ Own wr w.heap.size vv us ∧ Good G us ∧ goesI us L ∧ ys.length ≤ us.length ∧ (us.length = ys.length → us = ys ∧ ∀ j, msl.length ≤ j → j < i → (msl.getD j refD).1 = 2 → (msl.getD j refD).2 ∈ ys) ∧ Below X2.heap.size X2 wr ∧ Below Y.heap.size Y wr) (fun _ p _ => msl.length - (intOf p).toNat)
                case atStart => exact ⟨msl.length, _, ys, rfl, hFl, Nat.le_refl _, by go_num, HOY.out, HGY.out, HGO.out, Nat.le_refl _, fun _ => ⟨rfl, fun j h1 h2 => absurd h2 (by omega)⟩, HBY.out, Below.refl _ _⟩
                case round =>
                  obtain ⟨i, vv, us, rfl, hi, hFi, rfl, hO, hgood, hgo, hle2, hsm2, hB, hBY⟩ := hrel
                  have hgl3 := HGL.out us hgood
                  obtain ⟨va3, vc3, hvv⟩ : ∃ a c, vv = .slice a us.length c := by
                    obtain ⟨a, c, e, _⟩ := own_ints hO
                    exact ⟨a, c, e⟩
                  subst hvv
                  obtain ⟨_, _, _, _, t4, _⟩ := five_cells (five_below HTY.out hBY)
                  have HO4 : Hid _ := hO
                  have HG4 : Hid _ := hgood
                  have HGO4 : Hid _ := hgo
                  have HSM4 : Hid _ := hsm2
                  have HB4 : Hid _ := hB
                  have HBY4 : Hid _ := hBY
                  by_cases hlt4 : i < msl.length
                  · exact absurd hlt4 (by omega)
                  · have e : i = msl.length := by omega
                    subst e
                    have HX : Hid (us.length = xs.length → us = xs ∧ ∀ j, j < k + 1 → DoneI G xs j) := fun e => by
                      obtain ⟨e1, h1⟩ := HSM4.out (by omega)
                      obtain ⟨e2, h2⟩ := HSM.out (by omega)
                      refine ⟨e1.trans e2, fun j hj => ?_⟩
                      by_cases ej : j = k
                      · rw [ej, ← e2]
                        refine HDF.out fun r hr h3 => ?_
                        obtain ⟨n', hn', rfl⟩ := List.getElem_of_mem hr
                        rw [List.length_drop] at hn'
                        rw [List.getElem_drop] at h3 ⊢
                        have hq := h1 (msl.length + n') (by omega) (by omega)
                        rw [List.getD_eq_getElem?_getD, List.getElem?_eq_getElem (by omega)] at hq
                        exact hq h3
                      · exact h2 j (by omega)
                    clear hO hgood hgo hsm2 hB hBY
                    go_wp2
                    exact ⟨⟨k + 1, _, us, rfl, by omega, by go_num, HO4.out, HG4.out, HGO4.out, by omega, HX.out, HB4.out⟩, by simp [intOf]; omega⟩
              · subst hf
                have h0 := HKEY.out rfl
                obtain ⟨a', cap', e, _, _, _, hc⟩ := id HSVY.out
                injection e with e1 e2 e3
                subst e1 e3
                obtain ⟨b0, off0, rfl, hb0, hcc0⟩ := hc h0
                obtain ⟨r0, r1⟩ := hcc0 0 h0
                rw [show off0 + 0 * 2 = off0 by omega] at r0 r1
                clear hc hcc0 e2
                have HK0 : Hid (msl.getD 0 refD = msl.getD 0 refD) := rfl
                obtain ⟨e0, he0⟩ : ∃ e0, msl.getD 0 refD = e0 := ⟨_, rfl⟩
                rw [he0] at r0 r1
                obtain ⟨k0, n0⟩ := e0
                simp only at r0 r1
                have h1n : (1 : Nat) ≤ msl.length := h0
                have HS0 := l1Has_any (own_ints HOY.out) (by omega) n0
                by_cases hk2 : k0 = 2
                · subst hk2
                  by_cases hn0 : n0 ∈ ys
                  · rw [decide_eq_true hn0] at HS0
                    obtain ⟨hFl, hsf, hdf⟩ := HFK.out ys HGY.out hin 1 (.inr (.inr (.inl ⟨rfl, rfl, fun h => h.2 (by show (msl.getD 0 refD).2 ∈ ys; rw [he0]; exact hn0)⟩)))
                    have HSF : Hid _ := hsf
                    have HDF : Hid _ := hdf
                    clear hsf hdf HFK HKEY HFMT HNO
                    go_wp2_with (go_at_call 62; refine HS0.mono ?_; clear HS0; rintro e w5 ⟨rfl, hw5⟩; rw [hw5]; clear hw5)
                    go_loopw [3, 10] (fun v p wr => ∃ (i : Nat) (vv : Value) (us : List Int), vv = v ∧ i ≤ msl.length ∧ 1 ≤ i ∧ p = .int .i64 i ∧ Own wr w.heap.size vv us ∧ Good G us ∧ goesI us L ∧ ys.length ≤ us.length ∧ (us.length = ys.length → us = ys ∧ ∀ j, 1 ≤ j → j < i → (msl.getD j refD).1 = 2 → (msl.getD j refD).2 ∈ ys) ∧ Below X2.heap.size X2 wr ∧ Below Y.heap.size Y wr) (fun _ p _ => msl.length - (intOf p).toNat)
                    case atStart => exact ⟨1, _, ys, rfl, hFl, Nat.le_refl _, by go_num, HOY.out, HGY.out, HGO.out, Nat.le_refl _, fun _ => ⟨rfl, fun j h1 h2 => absurd h2 (by omega)⟩, HBY.out, Below.refl _ _⟩
                    case round =>
                      obtain ⟨i, vv, us, rfl, hi, hFi, rfl, hO, hgood, hgo, hle2, hsm2, hB, hBY⟩ := hrel
                      have hgl3 := HGL.out us hgood
                      obtain ⟨va3, vc3, hvv⟩ : ∃ a c, vv = .slice a us.length c := by
                        obtain ⟨a, c, e, _⟩ := own_ints hO
                        exact ⟨a, c, e⟩
                      subst hvv
                      obtain ⟨_, _, _, _, t4, _⟩ := five_cells (five_below HTY.out hBY)
                      have HO4 : Hid _ := hO
                      have HG4 : Hid _ := hgood
                      have HGO4 : Hid _ := hgo
                      have HSM4 : Hid _ := hsm2
                      have HB4 : Hid _ := hB
                      have HBY4 : Hid _ := hBY
                      by_cases hlt4 : i < msl.length
                      · obtain ⟨a', cap', e, _, _, _, hc⟩ := refsAt_below HSVY.out hBY
                        injection e with e1 e2 e3
                        subst e1 e3
                        obtain ⟨b4, off4, e4, hb4, hcc4⟩ := hc (by omega)
                        injection e4 with e4
                        injection e4 with e5 e6
                        subst e5 e6
                        obtain ⟨y0, y1⟩ := hcc4 i hlt4
                        have hme : msl.getD i refD ∈ msl.drop 1 := by
                          rw [List.getD_eq_getElem?_getD, List.getElem?_eq_getElem hlt4]
                          exact List.mem_iff_getElem.2 ⟨i - 1, by rw [List.length_drop]; omega, by rw [List.getElem_drop]; exact getElem_congr_idx (by omega)⟩
                        have hput := HSF.out _ hme
                        have HNXN : Hid (¬ (msl.getD i refD).1 = 2 → us.length = ys.length → us = ys ∧ ∀ j, 1 ≤ j → j < i + 1 → (msl.getD j refD).1 = 2 → (msl.getD j refD).2 ∈ ys) := fun hn e => by
                          obtain ⟨e1, h1⟩ := HSM4.out e
                          refine ⟨e1, fun j h2 h3 h4 => ?_⟩
                          by_cases ej : j = i
                          · rw [ej] at h4; exact absurd h4 hn
                          · exact h1 j h2 (by omega) h4
                        have HNXY : Hid ((putI (msl.getD i refD).2 us).length = ys.length → putI (msl.getD i refD).2 us = ys ∧ ∀ j, 1 ≤ j → j < i + 1 → (msl.getD j refD).1 = 2 → (msl.getD j refD).2 ∈ ys) := fun e => by
                          have hl := @len_putI (msl.getD i refD).2 us
                          have eu : us.length = ys.length := by omega
                          obtain ⟨e1, h1⟩ := HSM4.out eu
                          have e2 := hl.2.2 (by omega)
                          refine ⟨e2.trans e1, fun j h2 h3 h4 => ?_⟩
                          by_cases ej : j = i
                          · have : (msl.getD i refD).2 ∈ putI (msl.getD i refD).2 us := mem_putI.2 (.inl rfl)
                            rw [e2, e1] at this
                            rw [ej]
                            exact this
                          · exact h1 j h2 (by omega) h4
                        clear hc hcc4 e2 hme
                        generalize msl.getD i refD = e0 at *
                        obtain ⟨ek, en⟩ := e0
                        simp only at y0 y1 hput HNXN HNXY
                        by_cases he : ek = 2
                        · subst he
                          have sB := hB.size
                          have sBY := hBY.size
                          have PT := l1Put_any hO (by omega) (by omega) en
                          have HGP : Hid (Good G (putI en us)) := by
                            obtain ⟨p, hp, e⟩ := hput rfl
                            exact good_put hgood hp e
                          have HGG : Hid (goesI (putI en us) L) := goesI_mono hgo (fun a ha => mem_putI.2 (.inr ha))
                          have HLE : Hid (ys.length ≤ (putI en us).length) := Nat.le_trans hle2 (@len_putI en us).1
                          clear hO hgood hgo hsm2 hB hBY hput HNXN
                          go_wp2_with (go_at_call 61; refine PT.mono ?_; clear PT; rintro e w5 ⟨v5, rfl, o5, b5⟩; obtain ⟨va5, vn5, vc5, rfl⟩ := ints_sl (own_ints o5); have HO5 : Hid _ := o5; have HB5 : Hid _ := HB4.out.trans (b5.mono sB); have HBY5 : Hid _ := HBY4.out.trans (b5.mono sBY); clear o5 b5)
                          exact ⟨⟨i + 1, _, _, rfl, by omega, by omega, by go_num, HO5.out, HGP.out, HGG.out, HLE.out, HNXY.out, HB5.out, HBY5.out⟩, by simp [intOf]; omega⟩
                        · have he' : (ek == 2) = false := by simpa using he
                          have HNX2 : Hid _ := HNXN.out he
                          clear hO hgood hgo hsm2 hB hBY hput HNXN HNXY he
                          go_wp2
                          exact ⟨⟨i + 1, _, us, rfl, by omega, by omega, by go_num, HO4.out, HG4.out, HGO4.out, hle2, HNX2.out, HB4.out, HBY4.out⟩, by simp [intOf]; omega⟩
                      · have e : i = msl.length := by omega
                        subst e
                        have HX : Hid (us.length = xs.length → us = xs ∧ ∀ j, j < k + 1 → DoneI G xs j) := fun e => by
                          obtain ⟨e1, h1⟩ := HSM4.out (by omega)
                          obtain ⟨e2, h2⟩ := HSM.out (by omega)
                          refine ⟨e1.trans e2, fun j hj => ?_⟩
                          by_cases ej : j = k
                          · rw [ej, ← e2]
                            refine HDF.out fun r hr h3 => ?_
                            obtain ⟨n', hn', rfl⟩ := List.getElem_of_mem hr
                            rw [List.length_drop] at hn'
                            rw [List.getElem_drop] at h3 ⊢
                            have hq := h1 (1 + n') (by omega) (by omega)
                            rw [List.getD_eq_getElem?_getD, List.getElem?_eq_getElem (by omega)] at hq
                            exact hq h3
                          · exact h2 j (by omega)
                        clear hO hgood hgo hsm2 hB hBY
                        go_wp2
                        exact ⟨⟨k + 1, _, us, rfl, by omega, by go_num, HO4.out, HG4.out, HGO4.out, by omega, HX.out, HB4.out⟩, by simp [intOf]; omega⟩
                  · rw [decide_eq_false hn0] at HS0
                    obtain ⟨hFl, hsf, hdf⟩ := HFK.out ys HGY.out hin msl.length (.inr (.inr (.inr ⟨rfl, rfl, by show (msl.getD 0 refD).1 = 2; rw [he0], by show (msl.getD 0 refD).2 ∉ ys; rw [he0]; exact hn0⟩)))
                    have HSF : Hid _ := hsf
                    have HDF : Hid _ := hdf
                    clear hsf hdf HFK HKEY HFMT HNO
                    go_wp2_with (go_at_call 62; refine HS0.mono ?_; clear HS0; rintro e w5 ⟨rfl, hw5⟩; rw [hw5]; clear hw5)
                    go_loopw [3, 10] (fun v p wr => ∃ (i : Nat) (vv : Value) (us : List Int), vv = v ∧ i ≤ msl.length ∧ msl.length ≤ i ∧ p = .int .i64 i ∧ Own wr w.heap.size vv us ∧ Good G us ∧ goesI us L ∧ ys.length ≤ us.length ∧ (us.length = ys.length → us = ys ∧ ∀ j, msl.length ≤ j → j < i → (msl.getD j refD).1 = 2 → (msl.getD j refD).2 ∈ ys) ∧ Below X2.heap.size X2 wr ∧ Below Y.heap.size Y wr) (fun _ p _ => msl.length - (intOf p).toNat)
                    case atStart => exact ⟨msl.length, _, ys, rfl, hFl, Nat.le_refl _, by go_num, HOY.out, HGY.out, HGO.out, Nat.le_refl _, fun _ => ⟨rfl, fun j h1 h2 => absurd h2 (by omega)⟩, HBY.out, Below.refl _ _⟩
                    case round =>
                      obtain ⟨i, vv, us, rfl, hi, hFi, rfl, hO, hgood, hgo, hle2, hsm2, hB, hBY⟩ := hrel
                      have hgl3 := HGL.out us hgood
                      obtain ⟨va3, vc3, hvv⟩ : ∃ a c, vv = .slice a us.length c := by
                        obtain ⟨a, c, e, _⟩ := own_ints hO
                        exact ⟨a, c, e⟩
                      subst hvv
                      obtain ⟨_, _, _, _, t4, _⟩ := five_cells (five_below HTY.out hBY)
                      have HO4 : Hid _ := hO
                      have HG4 : Hid _ := hgood
                      have HGO4 : Hid _ := hgo
                      have HSM4 : Hid _ := hsm2
                      have HB4 : Hid _ := hB
                      have HBY4 : Hid _ := hBY
                      by_cases hlt4 : i < msl.length
                      · exact absurd hlt4 (by omega)
                      · have e : i = msl.length := by omega
                        subst e
                        have HX : Hid (us.length = xs.length → us = xs ∧ ∀ j, j < k + 1 → DoneI G xs j) := fun e => by
                          obtain ⟨e1, h1⟩ := HSM4.out (by omega)
                          obtain ⟨e2, h2⟩ := HSM.out (by omega)
                          refine ⟨e1.trans e2, fun j hj => ?_⟩
                          by_cases ej : j = k
                          · rw [ej, ← e2]
                            refine HDF.out fun r hr h3 => ?_
                            obtain ⟨n', hn', rfl⟩ := List.getElem_of_mem hr
                            rw [List.length_drop] at hn'
                            rw [List.getElem_drop] at h3 ⊢
                            have hq := h1 (msl.length + n') (by omega) (by omega)
                            rw [List.getD_eq_getElem?_getD, List.getElem?_eq_getElem (by omega)] at hq
                            exact hq h3
                          · exact h2 j (by omega)
                        clear hO hgood hgo hsm2 hB hBY
                        go_wp2
                        exact ⟨⟨k + 1, _, us, rfl, by omega, by go_num, HO4.out, HG4.out, HGO4.out, by omega, HX.out, HB4.out⟩, by simp [intOf]; omega⟩
                · have hk2' : (k0 == 2) = false := by simpa using hk2
                  obtain ⟨hFl, hsf, hdf⟩ := HFK.out ys HGY.out hin 1 (.inr (.inr (.inl ⟨rfl, rfl, fun h => hk2 (by have := h.1; rw [show (MO.abs ⟨mi, mc, 2, mh, _, msl⟩).slots = msl from rfl, he0] at this; exact this)⟩)))
                  have HSF : Hid _ := hsf
                  have HDF : Hid _ := hdf
                  clear hsf hdf HFK HKEY HFMT HNO
                  go_wp2_with fail
                  go_loopw [3, 10] (fun v p wr => ∃ (i : Nat) (vv : Value) (us : List Int), vv = v ∧ i ≤ msl.length ∧ 1 ≤ i ∧ p = .int .i64 i ∧ Own wr w.heap.size vv us ∧ Good G us ∧ goesI us L ∧ ys.length ≤ us.length ∧ (us.length = ys.length → us = ys ∧ ∀ j, 1 ≤ j → j < i → (msl.getD j refD).1 = 2 → (msl.getD j refD).2 ∈ ys) ∧ Below X2.heap.size X2 wr ∧ Below Y.heap.size Y wr) (fun _ p _ => msl.length - (intOf p).toNat)
                  case atStart => exact ⟨1, _, ys, rfl, hFl, Nat.le_refl _, by go_num, HOY.out, HGY.out, HGO.out, Nat.le_refl _, fun _ => ⟨rfl, fun j h1 h2 => absurd h2 (by omega)⟩, HBY.out, Below.refl _ _⟩
                  case round =>
                    obtain ⟨i, vv, us, rfl, hi, hFi, rfl, hO, hgood, hgo, hle2, hsm2, hB, hBY⟩ := hrel
                    have hgl3 := HGL.out us hgood
                    obtain ⟨va3, vc3, hvv⟩ : ∃ a c, vv = .slice a us.length c := by
                      obtain ⟨a, c, e, _⟩ := own_ints hO
                      exact ⟨a, c, e⟩
                    subst hvv
                    obtain ⟨_, _, _, _, t4, _⟩ := five_cells (five_below HTY.out hBY)
                    have HO4 : Hid _ := hO
                    have HG4 : Hid _ := hgood
                    have HGO4 : Hid _ := hgo
                    have HSM4 : Hid _ := hsm2
                    have HB4 : Hid _ := hB
                    have HBY4 : Hid _ := hBY
                    by_cases hlt4 : i < msl.length
                    · obtain ⟨a', cap', e, _, _, _, hc⟩ := refsAt_below HSVY.out hBY
                      injection e with e1 e2 e3
                      subst e1 e3
                      obtain ⟨b4, off4, e4, hb4, hcc4⟩ := hc (by omega)
                      injection e4 with e4
                      injection e4 with e5 e6
                      subst e5 e6
                      obtain ⟨y0, y1⟩ := hcc4 i hlt4
                      have hme : msl.getD i refD ∈ msl.drop 1 := by
                        rw [List.getD_eq_getElem?_getD, List.getElem?_eq_getElem hlt4]
                        exact List.mem_iff_getElem.2 ⟨i - 1, by rw [List.length_drop]; omega, by rw [List.getElem_drop]; exact getElem_congr_idx (by omega)⟩
                      have hput := HSF.out _ hme
                      have HNXN : Hid (¬ (msl.getD i refD).1 = 2 → us.length = ys.length → us = ys ∧ ∀ j, 1 ≤ j → j < i + 1 → (msl.getD j refD).1 = 2 → (msl.getD j refD).2 ∈ ys) := fun hn e => by
                        obtain ⟨e1, h1⟩ := HSM4.out e
                        refine ⟨e1, fun j h2 h3 h4 => ?_⟩
                        by_cases ej : j = i
                        · rw [ej] at h4; exact absurd h4 hn
                        · exact h1 j h2 (by omega) h4
                      have HNXY : Hid ((putI (msl.getD i refD).2 us).length = ys.length → putI (msl.getD i refD).2 us = ys ∧ ∀ j, 1 ≤ j → j < i + 1 → (msl.getD j refD).1 = 2 → (msl.getD j refD).2 ∈ ys) := fun e => by
                        have hl := @len_putI (msl.getD i refD).2 us
                        have eu : us.length = ys.length := by omega
                        obtain ⟨e1, h1⟩ := HSM4.out eu
                        have e2 := hl.2.2 (by omega)
                        refine ⟨e2.trans e1, fun j h2 h3 h4 => ?_⟩
                        by_cases ej : j = i
                        · have : (msl.getD i refD).2 ∈ putI (msl.getD i refD).2 us := mem_putI.2 (.inl rfl)
                          rw [e2, e1] at this
                          rw [ej]
                          exact this
                        · exact h1 j h2 (by omega) h4
                      clear hc hcc4 e2 hme
                      generalize msl.getD i refD = e0 at *
                      obtain ⟨ek, en⟩ := e0
                      simp only at y0 y1 hput HNXN HNXY
                      by_cases he : ek = 2
                      · subst he
                        have sB := hB.size
                        have sBY := hBY.size
                        have PT := l1Put_any hO (by omega) (by omega) en
                        have HGP : Hid (Good G (putI en us)) := by
                          obtain ⟨p, hp, e⟩ := hput rfl
                          exact good_put hgood hp e
                        have HGG : Hid (goesI (putI en us) L) := goesI_mono hgo (fun a ha => mem_putI.2 (.inr ha))
                        have HLE : Hid (ys.length ≤ (putI en us).length) := Nat.le_trans hle2 (@len_putI en us).1
                        clear hO hgood hgo hsm2 hB hBY hput HNXN
                        go_wp2_with (go_at_call 61; refine PT.mono ?_; clear PT; rintro e w5 ⟨v5, rfl, o5, b5⟩; obtain ⟨va5, vn5, vc5, rfl⟩ := ints_sl (own_ints o5); have HO5 : Hid _ := o5; have HB5 : Hid _ := HB4.out.trans (b5.mono sB); have HBY5 : Hid _ := HBY4.out.trans (b5.mono sBY); clear o5 b5)
                        exact ⟨⟨i + 1, _, _, rfl, by omega, by omega, by go_num, HO5.out, HGP.out, HGG.out, HLE.out, HNXY.out, HB5.out, HBY5.out⟩, by simp [intOf]; omega⟩
                      · have he' : (ek == 2) = false := by simpa using he
                        have HNX2 : Hid _ := HNXN.out he
                        clear hO hgood hgo hsm2 hB hBY hput HNXN HNXY he
                        go_wp2
                        exact ⟨⟨i + 1, _, us, rfl, by omega, by omega, by go_num, HO4.out, HG4.out, HGO4.out, hle2, HNX2.out, HB4.out, HBY4.out⟩, by simp [intOf]; omega⟩
                    · have e : i = msl.length := by omega
                      subst e
                      have HX : Hid (us.length = xs.length → us = xs ∧ ∀ j, j < k + 1 → DoneI G xs j) := fun e => by
                        obtain ⟨e1, h1⟩ := HSM4.out (by omega)
                        obtain ⟨e2, h2⟩ := HSM.out (by omega)
                        refine ⟨e1.trans e2, fun j hj => ?_⟩
                        by_cases ej : j = k
                        · rw [ej, ← e2]
                          refine HDF.out fun r hr h3 => ?_
                          obtain ⟨n', hn', rfl⟩ := List.getElem_of_mem hr
                          rw [List.length_drop] at hn'
                          rw [List.getElem_drop] at h3 ⊢
                          have hq := h1 (1 + n') (by omega) (by omega)
                          rw [List.getD_eq_getElem?_getD, List.getElem?_eq_getElem (by omega)] at hq
                          exact hq h3
                        · exact h2 j (by omega)
                      clear hO hgood hgo hsm2 hB hBY
                      go_wp2
                      exact ⟨⟨k + 1, _, us, rfl, by omega, by go_num, HO4.out, HG4.out, HGO4.out, by omega, HX.out, HB4.out⟩, by simp [intOf]; omega⟩
            · rw [decide_eq_false hin]
              have HX : Hid (ys.length = xs.length → ys = xs ∧ ∀ j, j < k + 1 → DoneI G xs j) := fun e => by
                obtain ⟨e1, h1⟩ := HSM.out e
                refine ⟨e1, fun j hj => ?_⟩
                by_cases ej : j = k
                · rw [ej, ← e1]; exact HNO.out hin
                · exact h1 j (by omega)
              clear hin
              go_wp2
              exact ⟨⟨k + 1, _, ys, rfl, by omega, by go_num, HOY.out, HGY.out, HGO.out, hle, HX.out, HBY.out⟩, by simp [intOf]; omega⟩
          · have e : k = ms.length := by omega
            subst e
            by_cases he : ys.length = xs.length
            · obtain ⟨e1, hd⟩ := hsame he
              subst e1
              have hfin : ys = zs := isR_unique (good_all HOK.out hgood (by rw [HLL.out]; exact hgo) (fun j hj => hd j (by rw [HLEN.out]; exact hj))) HZ.out
              subst hfin
              have HF : Hid (Own wr w.heap.size (.slice va2 ys.length vc2) ys) := hO
              have HFB : Hid (Below w.heap.size w wr) := HB2.out.trans (hB.mono sz2)
              have hll : ((ys.length : Int) == (ys.length : Int)) = true := by simp
              clear hO hgood hgo hsame hB hd he
              go_wp2
              go_ret
              exact ⟨_, rfl, HF.out, HFB.out⟩
            · have hll : ((ys.length : Int) == (xs.length : Int)) = false := by
                rw [beq_eq_false_iff_ne]
                omega
              have hlt2 : xs.length < ys.length := by omega
              clear hO hgood hgo hsame hB
              go_wp2
              exact ⟨⟨_, ys, rfl, HO.out, HGY.out, HGO.out, HB.out⟩, by simp [slen]; omega⟩
end Go.Proofs.Ytfajnnibkcnkaal.gr
namespace Go.Proofs.Ytfajnnibkcnkaal.gr
open Go.RowKit rows heads
set_option maxRecDepth 100000
set_option linter.unusedVariables false

set_option maxHeartbeats 4000000 in
theorem sReached_any {w : World} {o r m : Value} {ms : List MO} {G : Gr} (h : GraphAt w o r m ms G) (hs : gSize ms G ≤ 1048576) {xs : List Int} (hx : IsReached G xs) :
    Calls Try.prog 9 #[gv o r m G.next G.seed] w fun e w' => ∃ v, e = .returned v ∧ Own w' w.heap.size v xs ∧ Below w.heap.size w w' := by
  obtain ⟨a1, n1, c1, a2, n2, c2, a3, n3, c3, e1, e2, e3⟩ := graphAt_slices h
  subst e1 e2 e3
  have B : Below w.heap.size w (w.alloc (gb (.slice a1 n1 c1) (.slice a2 n2 c2) (.slice a3 n3 c3) G.next G.seed)) := (Below.refl _ w).alloc (Nat.le_refl _) _
  have T := five_new w 32 (.slice a1 n1 c1) (.slice a2 n2 c2) (.slice a3 n3 c3) (.int .i64 G.next) (.int .i64 G.seed)
  have GO := sGraphOk_any (graphAt_below h B) hs
  have HG : Hid _ := h
  have HB : Hid _ := B
  have HT : Hid _ := T
  have HX : Hid _ := hx
  clear h B T hx
  go_enter Try.func9, Try.ntmps9
  go_wp2_with fail
  generalize hX : (w.alloc (gb (.slice a1 n1 c1) (.slice a2 n2 c2) (.slice a3 n3 c3) G.next G.seed)) = X at *
  clear hX
  refine GO.mono ?_
  rintro e w1 ⟨rfl, b1⟩
  have B1 := HB.out.trans (b1.mono HB.out.size)
  have T1 := five_below HT.out b1
  have HB1 : Hid _ := B1
  clear GO HB HT b1
  cases ok : gOk G
  · have hxs : xs = [] := by
      rcases HX.out with ⟨_, e⟩ | ⟨e, _⟩
      · exact e
      · rw [ok] at e; cases e
    subst hxs
    have HF : Hid (Own (w1.alloc (.cells #[] 2)) w.heap.size (.slice (some ⟨w1.heap.size, 0, none⟩) 0 0) []) := ⟨rfl, .inr ⟨w1.heap.size, 0, #[], rfl, B1.size, heap_alloc_new w1 _, Nat.le_refl _, by decide, rfl, rfl⟩⟩
    have HFB : Hid (Below w.heap.size w (w1.alloc (.cells #[] 2))) := B1.alloc B1.size _
    clear B1 T1 HG HX
    go_wp2
    go_ret
    exact ⟨_, rfl, HF.out, HFB.out⟩
  · have hxs : IsR G xs := by
      rcases HX.out with ⟨e, _⟩ | ⟨_, e⟩
      · rw [ok] at e; cases e
      · exact e
    have L7 := l7Reached_any (graphAt_below HG.out B1) ok hxs
    obtain ⟨z0, z1, z2, z3, z4, _⟩ := five_cells T1
    have sz1 := B1.size
    clear B1 T1 HG HX hxs
    go_wp2_with fail
    refine L7.mono ?_
    rintro e w2 ⟨v, rfl, O2, b2⟩
    obtain ⟨va, vn, vc, rfl⟩ := ints_sl (own_ints O2)
    have HF : Hid (Own w2 w.heap.size _ xs) := own_base O2 sz1
    have HFB : Hid _ := HB1.out.trans (b2.mono sz1)
    clear L7 O2 b2
    go_wp2
    go_ret
    exact ⟨_, rfl, HF.out, HFB.out⟩
end Go.Proofs.Ytfajnnibkcnkaal.gr
namespace Go.Proofs.Ytfajnnibkcnkaal.rows
open Go.RowKit
set_option maxRecDepth 100000

theorem ints_len {w : World} {a : Option Addr} {n cap : Nat} {es : List Int} (h : IntsAt w (.slice a n cap) es) : es.length = n ∧ (a = none → n = 0) := by
  obtain ⟨a', cap', e, h1, _, h2, _⟩ := h
  injection e with e1 e2 e3
  subst e1 e2 e3
  exact ⟨rfl, fun ha => by have := h2 ha; omega⟩
theorem src_ints {w : World} {a : Option Addr} {n cap : Nat} {es : List Int} (h : IntsAt w (.slice a n cap) es) : Src Try.prog 1 27 (.slice a n cap) n (cellsOf es) w := by
  obtain ⟨hl, hz⟩ := ints_len h
  cases a with
  | none =>
    have hn := hz rfl
    have e : es = [] := List.eq_nil_of_length_eq_zero (by omega)
    subst e hn
    exact ⟨.inl ⟨_, Try.underlying27⟩, fun w' => by simp [Builtin.lenOf], by simp [Builtin.firstCells], by simp [Builtin.firstCells], by simp, fun u hu => by simp at hu⟩
  | some ad =>
    have hc : (cellsOf es).length = n * 1 := by simp [hl]
    exact ⟨.inl ⟨_, Try.underlying27⟩, fun w' => by simp [Builtin.lenOf], run_firstCells_some w 1 n ad n cap (cellsOf es) hc (ints_news h), run_firstCells_some w.drew 1 n ad n cap (cellsOf es) hc (ints_news (w := w.drew) h), hc, ints_oneCell _ _⟩

/-- Onto an empty list of no room. -/
theorem run_app0I {w : World} {g : Nat} {a : Option Addr} {n cap : Nat} {es : List Int} (h : IntsAt w (.slice a n cap) es) (hl : n ≤ 1048576) (hg : w.heap[g]? = some (.cells #[] 2 (0, 0))) (ty : TypeId) :
    ∃ (q c : Nat) (w' : World), (Builtin.append_ #[27, 27] ty #[.slice (some ⟨g, 0, none⟩) 0 0, .slice a n cap]).run Try.prog w = .ok (.slice (some ⟨q, 0, none⟩) n c) w' ∧ (q = g ∨ w.heap.size ≤ q) ∧ (∀ base, base ≤ q → w'.ownsRow base 2 1 (.slice (some ⟨q, 0, none⟩) n c) n (cellsOf es)) ∧ Below w.heap.size w w' := by
  obtain ⟨i0, hi, hz0, hz1, hz2⟩ := info_parts info
  have S := src_ints h
  obtain ⟨hlen, _⟩ := ints_len h
  have ho : ∀ {w' : World} {q c base : Nat} (cur : Array Value), base ≤ q → w'.heap[q]? = some (.cells cur 2 (0, 0)) → n ≤ c → c ≤ maxLen → cur.size = c * 1 → cur.toList.take (n * 1) = cellsOf es → w'.ownsRow base 2 1 (.slice (some ⟨q, 0, none⟩) n c) n (cellsOf es) := by
    intro w' q c base cur h1 h2 h3 h4 h5 h6
    exact ⟨by simp [hlen], .inr ⟨q, c, cur, rfl, h1, h2, h3, h4, h5, h6⟩⟩
  rcases Nat.eq_zero_or_pos n with h0 | hp
  · subst h0
    have e : es = [] := List.eq_nil_of_length_eq_zero hlen
    subst e
    have hr := run_append_nothing w 27 27 ty 2 i0 Try.underlying27 hi (some ⟨g, 0, none⟩) 0 0 (Nat.le_refl _) (.slice a 0 cap) (by rw [hz1]; exact S)
    exact ⟨g, 0, w, hr, .inl rfl, fun base hb => ho #[] hb hg (Nat.le_refl _) (by decide) rfl rfl, Below.refl _ _⟩
  · have hold : (Builtin.firstCells i0.size 0 (.slice (some ⟨g, 0, none⟩) 0 0)).run Try.prog w.drew = .ok ([] : List Value).toArray w.drew := run_firstCells_some w.drew i0.size 0 ⟨g, 0, none⟩ 0 0 [] (by simp) (fun j v hj => by simp at hj)
    have hr := run_append_grow_src w 27 27 ty 2 i0 (.int .i64 0) Try.underlying27 hi hz0 (some ⟨g, 0, none⟩) 0 0 [] hold (.slice a n cap) n (cellsOf es) (by rw [hz1]; exact S) (by omega) (by omega) (by rw [hz2]; exact growslice_fits (by omega) (by omega))
    have hge := grownCap_ge w (0 + n) 0 2
    have hcm : grownCap w (0 + n) 0 2 ≤ maxLen := grownCap_le_maxLen w (0 + n) 0 2 (by unfold maxLen; omega)
    rw [Nat.zero_add] at hr hge hcm
    refine ⟨w.heap.size, _, _, hr, .inr (Nat.le_refl _), fun base hb => ho _ hb (heap_alloc_new w.drew _) hge hcm ?_ ?_, ⟨rfl, rfl, rfl, by simp, fun j hj => Below.heap_alloc w.drew _ j hj⟩⟩
    · simp [Builtin.zeroCells, Value.cells, hlen]
      omega
    · simp only [List.nil_append, Array.toList_append]
      exact List.take_left' (by simp [hlen])
end Go.Proofs.Ytfajnnibkcnkaal.rows
namespace Go.Proofs.Ytfajnnibkcnkaal.gr
open Go.RowKit rows heads region
set_option maxRecDepth 100000
set_option linter.unusedVariables false
set_option linter.unusedSimpArgs false

theorem rq_ld (b k : Nat) (w : World) {x : Int} (h : w.cell? ⟨b, k, none⟩ = some (.int .i64 x)) : (Instr.loadAt 2 (.pointer (some ⟨b, k, none⟩))).run Try.prog w = .ok (.int .i64 x) w := by
  go_simp
theorem rq_nil (w : World) : (Instr.buildSlice 27 0 #[]).run Try.prog w = .ok (.slice (some ⟨w.heap.size, 0, none⟩) 0 0) (w.alloc (.cells #[] 2)) := by
  go_simp
theorem rq_one (x : Int) (w : World) : (Instr.buildSlice 27 1 #[(0, .int .i64 x)]).run Try.prog w = .ok (.slice (some ⟨w.heap.size, 0, none⟩) 1 1) (w.alloc (.cells #[.int .i64 x] 2)) := by
  go_simp
/-- What is known of each slot; what was used up is known no more. -/
def FP (n0 kk m : Nat) (x : Int) (T D : List Int) (lv pv rv fp : Value) (l : Array Bool) (k : Nat) (t : Value) (W : World) : Prop :=
  match k with
  | 0 => ∃ g, t = .slice (some ⟨g, 0, none⟩) 0 0 ∧ n0 ≤ g ∧ (l.getD 4 false = true ∨ W.heap[g]? = some (.cells #[] 2 (0, 0)))
  | 1 => t = lv
  | 2 => t = .int .i64 (kk : Int)
  | 3 => t = pv
  | 4 => l.getD 8 false = true ∨ W.ownsRow n0 2 1 t kk (cellsOf T)
  | 5 => t = fp
  | 6 => t = .int .i64 x
  | 7 => ∃ b, t = .slice (some ⟨b, 0, none⟩) 1 1 ∧ (l.getD 8 false = true ∨ W.heap[b]? = some (.cells #[.int .i64 x] 2 (0, 0)))
  | 8 => l.getD 10 false = true ∨ W.ownsRow n0 2 1 t (kk + 1) (cellsOf T ++ [.int .i64 x])
  | 9 => t = rv
  | 10 => W.ownsRow n0 2 1 t (kk + 1 + m) ((cellsOf T ++ [.int .i64 x]) ++ cellsOf D)
  | _ => False
theorem set_true {l : Array Bool} {k j : Nat} (h : l.getD j false = true) : (l.setIfInBounds k true).getD j false = true := by
  by_cases e : k = j
  · subst e
    have hk : k < l.size := by
      rcases Nat.lt_or_ge k l.size with q | q
      · exact q
      · simp [Array.getD, Nat.not_lt.2 q] at h
    exact listed_ne hk
  · rw [getD_other l e]; exact h
/-- What is known stays known where the world only grows. -/
theorem FP_st {n0 kk m : Nat} {x : Int} {T D : List Int} {lv pv rv fp : Value} {l : Array Bool} (k : Nat) {j : Nat} {t : Value} {W W' : World} (hb : Below W.heap.size W W') (h : FP n0 kk m x T D lv pv rv fp l j t W) : FP n0 kk m x T D lv pv rv fp (l.setIfInBounds k true) j t W' := by
  match j, h with
  | 0, ⟨g, h1, h2, h3⟩ => exact ⟨g, h1, h2, h3.imp set_true (fun e => (hb.block g (lt_of_block e)).trans e)⟩
  | 1, h => exact h
  | 2, h => exact h
  | 3, h => exact h
  | 4, h => exact h.imp set_true (fun e => row_below e hb)
  | 5, h => exact h
  | 6, h => exact h
  | 7, ⟨b, h1, h3⟩ => exact ⟨b, h1, h3.imp set_true (fun e => (hb.block b (lt_of_block e)).trans e)⟩
  | 8, h => exact h.imp set_true (fun e => row_below e hb)
  | 9, h => exact h
  | 10, h => exact row_below h hb
  | _ + 11, h => exact h.elim

set_option maxHeartbeats 8000000 in
theorem regPut {id : Nat} {ops : Array Oper} {a0 : Act} {Q : Exit → Act → World → Prop} {w : World} {s0 ls rs P7 fd kk m : Nat} {x : Int} {T D : List Int} {lv pv rv : Value} {a : Option Addr} {cap gr cr : Nat} (hg : ∀ o ∈ ops, o.guard = none) (hacyc : ∀ (k : Nat) (o : Oper), ops[k]? = some o → ∀ e ∈ o.after, e.on < k) (hn : ops.size = 12)
    (h0 : Has ops 0 (some s0) (.buildSlice 27 0 #[]) [])
    (h1 : Has ops 1 (some (s0 + 1)) (.move (.tmp ls)) [])
    (h2 : Has ops 2 (some (s0 + 2)) (.move (.tmp 8)) [])
    (h3 : Has ops 3 (some (s0 + 3)) (.slice 27 (.tmp (s0 + 1)) none (some (.tmp (s0 + 2))) none) [1, 2])
    (h4 : Has ops 4 (some (s0 + 4)) (.call { callee := .builtin .append, args := #[.tmp s0, .tmp (s0 + 3)], argTypes := #[27, 27] }) [0, 3])
    (h5 : Has ops 5 (some (s0 + 5)) (.fieldAddr 51 (.tmp 7) fd) [])
    (h6 : Has ops 6 (some (s0 + 6)) (.load 2 (.tmp (s0 + 5))) [5])
    (h7 : Has ops 7 (some (s0 + 7)) (.buildSlice 27 1 #[(0, .tmp (s0 + 6))]) [6])
    (h8 : Has ops 8 (some (s0 + 8)) (.call { callee := .builtin .append, args := #[.tmp (s0 + 4), .tmp (s0 + 7)], argTypes := #[27, 27] }) [4, 7])
    (h9 : Has ops 9 (some (s0 + 9)) (.move (.tmp rs)) [])
    (h10 : Has ops 10 (some (s0 + 10)) (.call { callee := .builtin .append, args := #[.tmp (s0 + 8), .tmp (s0 + 9)], argTypes := #[27, 27] }) [8, 9])
    (h11 : Has ops 11 (some ls) (.assign (.tmp (s0 + 10))) [0, 1, 2, 3, 4, 5, 6, 7, 8, 9, 10])
    (hls : ls < s0) (hls8 : ls ≠ 8) (hls7 : ls ≠ 7) (hrs : rs < s0) (hlr : ls ≠ rs) (h8s : 8 < s0) (sz : s0 + 10 < a0.tmps.size)
    (el : a0.tmps.getD ls undef = lv) (e8 : a0.tmps.getD 8 undef = .int .i64 (kk : Int)) (er : a0.tmps.getD rs undef = rv) (e7 : a0.tmps.getD 7 undef = .pointer (some ⟨P7, 0, none⟩))
    (hcut : ∀ W, (Instr.sliceAt 27 lv none (some (.int .i64 (kk : Int))) none).run Try.prog W = .ok pv W)
    (hfa : ∀ W, (Instr.fieldAt 51 (.pointer (some ⟨P7, 0, none⟩)) fd).run Try.prog W = .ok (.pointer (some ⟨P7, fd, none⟩)) W)
    (l7 : P7 < w.heap.size) (n7 : w.cell? ⟨P7, fd, none⟩ = some (.int .i64 x))
    (hpv : pv = .slice a kk cap) (hT : IntsAt w (.slice a kk cap) T) (hrv : rv = .slice (some ⟨gr, 0, none⟩) m cr) (hD : IntsAt w (.slice (some ⟨gr, 0, none⟩) m cr) D) (hkk : kk ≤ 1000) (hm : m ≤ 1000)
    (fin : ∀ u w' v, u ls = v → w'.ownsRow w.heap.size 2 1 v (kk + 1 + m) ((cellsOf T ++ [.int .i64 x]) ++ cellsOf D) → Below w.heap.size w w' → Q .normal (ovr (fun s => s == ls || (decide (s0 ≤ s) && decide (s ≤ s0 + 10))) a0 u) w') :
    (Code.region id ops true).wp Try.prog Q a0 w := by
  obtain ⟨i0, hi0, hz0, hz1, hz2⟩ := info_parts info
  have hin : ∀ j, j ≤ 10 → (fun s => s == ls || (decide (s0 ≤ s) && decide (s ≤ s0 + 10))) (s0 + j) = true := fun j hj => by simp; omega
  refine wp_region_facts (by kernel_rfl) (fun s => s == ls || (decide (s0 ≤ s) && decide (s ≤ s0 + 10))) hg hacyc (fun l u W => (l.getD 11 false = false ∧ Below w.heap.size w W ∧ (l.getD 10 false = true → l.getD 8 false = true) ∧ (l.getD 8 false = true → l.getD 4 false = true) ∧ u ls = lv ∧ ∀ k, k < 11 → l.getD k false = true → FP w.heap.size kk m x T D lv pv rv (.pointer (some ⟨P7, fd, none⟩)) l k (u (s0 + k)) W) ∨ ((∀ k, k < 12 → l.getD k false = true) ∧ Q .normal (ovr (fun s => s == ls || (decide (s0 ≤ s) && decide (s ≤ s0 + 10))) a0 u) W)) (.inl ⟨?_, (Below.refl _ w).drew, fun h => ?_, fun h => ?_, el, fun k hk h => ?_⟩) ?_ ?_
  · simp [Array.getD, hn]
  · simp [Array.getD, hn] at h
  · simp [Array.getD, hn] at h
  · simp [Array.getD, hn, show k < 12 by omega] at h
  · rintro l u W (⟨h1, _⟩ | ⟨_, h⟩) hA
    · rw [hA 11 (by omega)] at h1
      cases h1
    · exact h
  · rintro l u W k o (⟨l11, hB, l108, l84, hul, hF⟩ | ⟨hA, _⟩) hl hlk ho hd
    case inr =>
      have hk : k < 12 := by rw [← hn]; exact (Array.getElem?_eq_some_iff.1 ho).1
      rw [hA k hk] at hlk
      cases hlk
    have hk : k < 12 := by rw [← hn]; exact (Array.getElem?_eq_some_iff.1 ho).1
    have ev : ∀ j, j ≤ 10 → (ovr (fun s => s == ls || (decide (s0 ≤ s) && decide (s ≤ s0 + 10))) a0 u).eval (.tmp (s0 + j)) = u (s0 + j) := fun j hj => eval_in (hin j hj) (Nat.lt_of_le_of_lt (Nat.add_le_add_left hj s0) sz)
    have evo : ∀ s, s < s0 → s ≠ ls → (ovr (fun s => s == ls || (decide (s0 ≤ s) && decide (s ≤ s0 + 10))) a0 u).eval (.tmp s) = a0.tmps.getD s undef := fun s h1 h2 => eval_out (by simp [h2]; omega) (by omega)
    have mono : ∀ {W' : World} {v : Value}, k < 11 → Below W.heap.size W W' → (k = 10 → l.getD 8 false = true) → (k = 8 → l.getD 4 false = true) → FP w.heap.size kk m x T D lv pv rv (.pointer (some ⟨P7, fd, none⟩)) (l.setIfInBounds k true) k v W' → (((l.setIfInBounds k true).getD 11 false = false ∧ Below w.heap.size w W' ∧ ((l.setIfInBounds k true).getD 10 false = true → (l.setIfInBounds k true).getD 8 false = true) ∧ ((l.setIfInBounds k true).getD 8 false = true → (l.setIfInBounds k true).getD 4 false = true) ∧ upd u (s0 + k) v ls = lv ∧ ∀ j, j < 11 → (l.setIfInBounds k true).getD j false = true → FP w.heap.size kk m x T D lv pv rv (.pointer (some ⟨P7, fd, none⟩)) (l.setIfInBounds k true) j (upd u (s0 + k) v (s0 + j)) W') ∨ ((∀ j, j < 12 → (l.setIfInBounds k true).getD j false = true) ∧ Q .normal (ovr (fun s => s == ls || (decide (s0 ≤ s) && decide (s ≤ s0 + 10))) a0 (upd u (s0 + k) v)) W')) := fun {W' v} h11 hb h10 h8' hv => by
      refine .inl ⟨by rw [getD_other l (by omega)]; exact l11, hB.trans (hb.mono hB.size), fun h => ?_, fun h => ?_, by simp [upd, show ¬ ls = s0 + k by omega, hul], fun j hj hlj => ?_⟩
      · by_cases e : k = 10
        · exact set_true (h10 e)
        · rw [getD_other l e] at h; exact set_true (l108 h)
      · by_cases e : k = 8
        · exact set_true (h8' e)
        · rw [getD_other l e] at h; exact set_true (l84 h)
      · by_cases e : j = k
        · subst e
          simp only [upd, if_true]
          exact hv
        · have : ¬ s0 + j = s0 + k := by omega
          simp only [upd, this, if_false]
          rw [getD_other l (Ne.symm e)] at hlj
          exact FP_st k hb (hF j hj hlj)
    rcases (show k = 0 ∨ k = 1 ∨ k = 2 ∨ k = 3 ∨ k = 4 ∨ k = 5 ∨ k = 6 ∨ k = 7 ∨ k = 8 ∨ k = 9 ∨ k = 10 ∨ k = 11 by omega) with rfl | rfl | rfl | rfl | rfl | rfl | rfl | rfl | rfl | rfl | rfl | rfl
    · obtain ⟨hdst, op, dep⟩ := has_at h0 ho hd
      refine wp_value (by simp [execOp, op, rq_nil, Result.andThen]) ⟨_, put_in hdst (hin 0 (by decide)) u _, mono (by decide) ((Below.refl _ W).alloc (Nat.le_refl _) _) (fun e => absurd e (by decide)) (fun e => absurd e (by decide)) ⟨W.heap.size, rfl, hB.size, .inr (heap_alloc_new W _)⟩⟩
    · obtain ⟨hdst, op, dep⟩ := has_at h1 ho hd
      have y : (ovr (fun s => s == ls || (decide (s0 ≤ s) && decide (s ≤ s0 + 10))) a0 u).eval (.tmp ls) = lv := (eval_in (by simp) (by omega)).trans hul
      exact wp_value (w' := W) (by simp [execOp, op, y, Result.andThen]) ⟨_, put_in hdst (hin 1 (by decide)) u _, mono (by decide) (Below.refl _ _) (fun e => absurd e (by decide)) (fun e => absurd e (by decide)) rfl⟩
    · obtain ⟨hdst, op, dep⟩ := has_at h2 ho hd
      have y := (evo 8 (by omega) (by omega)).trans e8
      exact wp_value (w' := W) (by simp [execOp, op, y, Result.andThen]) ⟨_, put_in hdst (hin 2 (by decide)) u _, mono (by decide) (Below.refl _ _) (fun e => absurd e (by decide)) (fun e => absurd e (by decide)) rfl⟩
    · obtain ⟨hdst, op, dep⟩ := has_at h3 ho hd
      have y1 := (ev 1 (by decide)).trans (hF 1 (by decide) (dep 1 (by simp)))
      have y2 := (ev 2 (by decide)).trans (hF 2 (by decide) (dep 2 (by simp)))
      exact wp_value (w' := W) (by simp [execOp, op, y1, y2, hcut, Result.andThen]) ⟨_, put_in hdst (hin 3 (by decide)) u _, mono (by decide) (Below.refl _ _) (fun e => absurd e (by decide)) (fun e => absurd e (by decide)) rfl⟩
    · obtain ⟨hdst, op, dep⟩ := has_at h4 ho hd
      obtain ⟨g, y0, hgn, hlit⟩ := hF 0 (by decide) (dep 0 (by simp))
      have y1 : (ovr (fun s => s == ls || (decide (s0 ≤ s) && decide (s ≤ s0 + 10))) a0 u).eval (.tmp s0) = .slice (some ⟨g, 0, none⟩) 0 0 := (ev 0 (by decide)).trans y0
      have y2 := (ev 3 (by decide)).trans ((hF 3 (by decide) (dep 3 (by simp))).trans hpv)
      have hlit' : W.heap[g]? = some (.cells #[] 2 (0, 0)) := by
        rcases hlit with e | e
        · rw [hlk] at e; cases e
        · exact e
      obtain ⟨q, c, w', hr, hq, hO, hb⟩ := run_app0I (intsAt_below hT hB) (by omega) hlit' o.type
      have hqn : w.heap.size ≤ q := by
        rcases hq with e | e
        · omega
        · exact Nat.le_trans hB.size e
      exact wp_value (w' := w') (by simp [execOp, op, resolve, invoke, builtin, y1, y2, hr, Result.andThen]) ⟨_, put_in hdst (hin 4 (by decide)) u _, mono (by decide) hb (fun e => absurd e (by decide)) (fun e => absurd e (by decide)) (.inr (hO _ hqn))⟩
    · obtain ⟨hdst, op, dep⟩ := has_at h5 ho hd
      have y := (evo 7 (by omega) (by omega)).trans e7
      exact wp_value (w' := W) (by simp [execOp, op, y, hfa, Result.andThen]) ⟨_, put_in hdst (hin 5 (by decide)) u _, mono (by decide) (Below.refl _ _) (fun e => absurd e (by decide)) (fun e => absurd e (by decide)) rfl⟩
    · obtain ⟨hdst, op, dep⟩ := has_at h6 ho hd
      have y := (ev 5 (by decide)).trans (hF 5 (by decide) (dep 5 (by simp)))
      have n7' := (hB.cell (p := ⟨P7, fd, none⟩) l7).trans n7
      exact wp_value (w' := W) (by simp [execOp, op, y, rq_ld P7 fd W n7', Result.andThen]) ⟨_, put_in hdst (hin 6 (by decide)) u _, mono (by decide) (Below.refl _ _) (fun e => absurd e (by decide)) (fun e => absurd e (by decide)) rfl⟩
    · obtain ⟨hdst, op, dep⟩ := has_at h7 ho hd
      have y := (ev 6 (by decide)).trans (hF 6 (by decide) (dep 6 (by simp)))
      exact wp_value (by simp [execOp, op, y, rq_one, Result.andThen]) ⟨_, put_in hdst (hin 7 (by decide)) u _, mono (by decide) ((Below.refl _ W).alloc (Nat.le_refl _) _) (fun e => absurd e (by decide)) (fun e => absurd e (by decide)) ⟨W.heap.size, rfl, .inr (heap_alloc_new W _)⟩⟩
    · obtain ⟨hdst, op, dep⟩ := has_at h8 ho hd
      have l4 := dep 4 (by simp)
      have l7' := dep 7 (by simp)
      have l10 : l.getD 10 false = false := by
        cases e : l.getD 10 false
        · rfl
        · rw [l108 e] at hlk; cases hlk
      have r4 : W.ownsRow w.heap.size 2 1 (u (s0 + 4)) kk (cellsOf T) := by
        rcases hF 4 (by decide) l4 with e | e
        · rw [hlk] at e; cases e
        · exact e
      obtain ⟨b, y0, hlit⟩ := hF 7 (by decide) l7'
      have hlit' : W.heap[b]? = some (.cells #[.int .i64 x] 2 (0, 0)) := by
        rcases hlit with e | e
        · rw [hlk] at e; cases e
        · exact e
      have y1 := ev 4 (by decide)
      have y2 := (ev 7 (by decide)).trans y0
      obtain ⟨v', w', hr, q2, q3, _, q5⟩ := run_append_own_at (P := Try.prog) W w.heap.size 27 o.type 2 i0 (.int .i64 0) 1 8 Try.underlying27 hi0 hz0 hz1 hz2 rfl (by decide) (u (s0 + 4)) kk (cellsOf T) r4 ⟨b, 0, none⟩ 1 1 [.int .i64 x] rfl (fun j u' hj => by
        match j with
        | 0 =>
          simp at hj
          subst hj
          simp [Addr.add, World.cell?, hlit']
        | j + 1 => simp at hj) (by simp [Value.oneCell']) (by unfold maxLen; omega) (by omega) hB.size
      have hbB : Below w.heap.size w w' := hB.trans (below_ch (ch_grown q3) hB.size (fun k hk => (blk_lt r4 k hk).1))
      refine wp_value (w' := w') (v := v') (by simp [execOp, op, resolve, invoke, builtin, y1, y2, hr, Result.andThen]) ⟨_, put_in hdst (hin 8 (by decide)) u _, .inl ⟨by rw [getD_other l (by omega)]; exact l11, hbB, fun h => (by rw [getD_other l (by omega), l10] at h; cases h), fun _ => set_true l4, by simp [upd, show ¬ ls = s0 + 8 by omega, hul], fun j hj hlj => ?_⟩⟩
      by_cases e : j = 8
      · subst e
        simp only [upd, if_true]
        exact .inr q2
      · have hne : ¬ s0 + j = s0 + 8 := by omega
        simp only [upd, hne, if_false]
        rw [getD_other l (Ne.symm e)] at hlj
        have s8 : (l.setIfInBounds 8 true).getD 8 false = true := listed_ne (by omega)
        have hFj := hF j hj hlj
        rcases (show j = 0 ∨ j = 1 ∨ j = 2 ∨ j = 3 ∨ j = 4 ∨ j = 5 ∨ j = 6 ∨ j = 7 ∨ j = 9 ∨ j = 10 by omega) with rfl | rfl | rfl | rfl | rfl | rfl | rfl | rfl | rfl | rfl
        · obtain ⟨g, f1, f2, f3⟩ := hFj; exact ⟨g, f1, f2, .inl (set_true l4)⟩
        · exact hFj
        · exact hFj
        · exact hFj
        · exact .inl s8
        · exact hFj
        · exact hFj
        · obtain ⟨b', f1, f2⟩ := hFj; exact ⟨b', f1, .inl s8⟩
        · exact hFj
        · rw [l10] at hlj; cases hlj
    · obtain ⟨hdst, op, dep⟩ := has_at h9 ho hd
      have y := (evo rs (by omega) (Ne.symm hlr)).trans er
      exact wp_value (w' := W) (by simp [execOp, op, y, Result.andThen]) ⟨_, put_in hdst (hin 9 (by decide)) u _, mono (by decide) (Below.refl _ _) (fun e => absurd e (by decide)) (fun e => absurd e (by decide)) rfl⟩
    · obtain ⟨hdst, op, dep⟩ := has_at h10 ho hd
      have l8 := dep 8 (by simp)
      have l9 := dep 9 (by simp)
      have r8 : W.ownsRow w.heap.size 2 1 (u (s0 + 8)) (kk + 1) (cellsOf T ++ [.int .i64 x]) := by
        rcases hF 8 (by decide) l8 with e | e
        · rw [hlk] at e; cases e
        · exact e
      have y1 := ev 8 (by decide)
      have y2 := (ev 9 (by decide)).trans ((hF 9 (by decide) l9).trans hrv)
      have hDW := intsAt_below hD hB
      obtain ⟨hDl, _⟩ := ints_len hD
      obtain ⟨v', w', hr, q2, q3, _, q5⟩ := run_append_own_at (P := Try.prog) W w.heap.size 27 o.type 2 i0 (.int .i64 0) 1 8 Try.underlying27 hi0 hz0 hz1 hz2 rfl (by decide) (u (s0 + 8)) (kk + 1) (cellsOf T ++ [.int .i64 x]) r8 ⟨gr, 0, none⟩ m cr (cellsOf D) (by simp [hDl]) (ints_news hDW) (ints_oneCell _ _) (by unfold maxLen; omega) (by omega) hB.size
      have hbB : Below w.heap.size w w' := hB.trans (below_ch (ch_grown q3) hB.size (fun k hk => (blk_lt r8 k hk).1))
      refine wp_value (w' := w') (v := v') (by simp [execOp, op, resolve, invoke, builtin, y1, y2, hr, Result.andThen]) ⟨_, put_in hdst (hin 10 (by decide)) u _, .inl ⟨by rw [getD_other l (by omega)]; exact l11, hbB, fun h => set_true l8, fun _ => set_true (l84 l8), by simp [upd, show ¬ ls = s0 + 10 by omega, hul], fun j hj hlj => ?_⟩⟩
      by_cases e : j = 10
      · subst e
        simp only [upd, if_true]
        exact q2
      · have hne : ¬ s0 + j = s0 + 10 := by omega
        simp only [upd, hne, if_false]
        rw [getD_other l (Ne.symm e)] at hlj
        have hFj := hF j hj hlj
        have s10 : (l.setIfInBounds 10 true).getD 10 false = true := listed_ne (by omega)
        have l4 : (l.setIfInBounds 10 true).getD 8 false = true := set_true l8
        rcases (show j = 0 ∨ j = 1 ∨ j = 2 ∨ j = 3 ∨ j = 4 ∨ j = 5 ∨ j = 6 ∨ j = 7 ∨ j = 8 ∨ j = 9 by omega) with rfl | rfl | rfl | rfl | rfl | rfl | rfl | rfl | rfl | rfl
        · obtain ⟨g, f1, f2, f3⟩ := hFj
          exact ⟨g, f1, f2, .inl (set_true (l84 l8))⟩
        · exact hFj
        · exact hFj
        · exact hFj
        · exact .inl l4
        · exact hFj
        · exact hFj
        · obtain ⟨b', f1, f2⟩ := hFj; exact ⟨b', f1, .inl l4⟩
        · exact .inl s10
        · exact hFj
    · obtain ⟨hdst, op, dep⟩ := has_at h11 ho hd
      have r10 := hF 10 (by decide) (dep 10 (by simp))
      have y := ev 10 (by decide)
      refine wp_value (w' := W) (v := u (s0 + 10)) (by simp [execOp, op, y]) ⟨_, put_in hdst (by simp) u _, .inr ⟨fun j hj => ?_, fin _ W (u (s0 + 10)) (by simp [upd]) r10 hB⟩⟩
      by_cases e : j = 11
      · subst e; exact listed_ne (by omega)
      · rw [getD_other l (Ne.symm e)]
        exact dep j (by rcases (show j = 0 ∨ j = 1 ∨ j = 2 ∨ j = 3 ∨ j = 4 ∨ j = 5 ∨ j = 6 ∨ j = 7 ∨ j = 8 ∨ j = 9 ∨ j = 10 by omega) with rfl | rfl | rfl | rfl | rfl | rfl | rfl | rfl | rfl | rfl | rfl <;> decide)
end Go.Proofs.Ytfajnnibkcnkaal.gr
