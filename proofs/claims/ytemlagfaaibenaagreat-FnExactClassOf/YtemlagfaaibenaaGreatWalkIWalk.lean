/-
  What the program's Walk answers.
  Made from the template WalkIWalk.
-/
import Derived.Test.YtemlagfaaibenaaGreatWalkIIter
import Derived.Test.YtemlagfaaibenaaGreatM2
import Derived.Maps.OwnIn
namespace Go.Proofs.YtemlagfaaibenaaGreat.walks
open Go.RowKit Go.Shelf rows heads words

theorem walk_no {w : World} {v : Value} {xs : List Int} {f t : Int} (h : IntsAt w v xs) (ht : I64 t) (d : rangeOk xs f t = false) :
    Calls Tryz.prog 125 #[v, .int .i64 f, .int .i64 t] w fun e w' => ∃ v', e = .returned (.tuple #[v', .bool false]) ∧ rows.Own w' w.heap.size v' [] ∧ Below w.heap.size w w' := by
  have h' := h
  obtain ⟨a, cap, rfl, hlc, hcm, _, hc⟩ := h
  clear hc
  cases dc : cutOk xs.length 0 t
  · cases dr : rowOk xs
    all_goals
      go_enter Tryz.func125, Tryz.ntmps125
      go_wp2_with fail
      refine (cut_no hlc hcm 0 t ⟨by decide, by decide⟩ ht dc).mono ?_
      rintro e w1 ⟨rfl, hw1⟩
      rw [hw1]
      clear hw1 w1
      go_wp2_with (go_at_call 124; refine (isRow_any h').mono ?_; rintro e w2 ⟨rfl, hw2⟩; rw [hw2]; clear hw2 w2)
      go_ret2
      exact ⟨_, rfl, own_nil _ _, Below.refl _ _⟩
  · obtain ⟨_, t0, t1⟩ := cutOk_true dc
    obtain ⟨T, rfl⟩ := Int.eq_ofNat_of_zero_le t0
    have hp : ∃ ad, piece a 0 T = .slice ad T T := ⟨_, rfl⟩
    obtain ⟨ad, hp⟩ := hp
    cases dr : rowOk xs
    · go_enter Tryz.func125, Tryz.ntmps125
      go_wp2_with fail
      refine (cut_yes hlc hcm 0 T (by omega)).mono ?_
      rintro e w1 ⟨rfl, hw1⟩
      rw [hw1, hp]
      clear hw1 w1 hp
      go_wp2_with (go_at_call 124; refine (isRow_any h').mono ?_; rintro e w2 ⟨rfl, hw2⟩; rw [hw2]; clear hw2 w2)
      go_ret2
      exact ⟨_, rfl, own_nil _ _, Below.refl _ _⟩
    · by_cases h1 : f < 0
      · go_enter Tryz.func125, Tryz.ntmps125
        go_wp2_with fail
        refine (cut_yes hlc hcm 0 T (by omega)).mono ?_
        rintro e w1 ⟨rfl, hw1⟩
        rw [hw1, hp]
        clear hw1 w1 hp
        go_wp2_with (go_at_call 124; refine (isRow_any h').mono ?_; rintro e w2 ⟨rfl, hw2⟩; rw [hw2]; clear hw2 w2)
        go_ret2
        exact ⟨_, rfl, own_nil _ _, Below.refl _ _⟩
      · have h2 : f > (T : Int) := by
          simp only [rangeOk, dr, Bool.true_and, decide_eq_false_iff_not] at d
          omega
        go_enter Tryz.func125, Tryz.ntmps125
        go_wp2_with fail
        refine (cut_yes hlc hcm 0 T (by omega)).mono ?_
        rintro e w1 ⟨rfl, hw1⟩
        rw [hw1, hp]
        clear hw1 w1 hp
        go_wp2_with (go_at_call 124; refine (isRow_any h').mono ?_; rintro e w2 ⟨rfl, hw2⟩; rw [hw2]; clear hw2 w2)
        go_ret2
        exact ⟨_, rfl, own_nil _ _, Below.refl _ _⟩

/-- A piece from the start on holds the first numbers. -/
theorem piece_ints {w : World} {a : Option Addr} {cap : Nat} {xs : List Int} (h : IntsAt w (.slice a xs.length cap) xs) (hl : xs.length ≤ 1048576) (T : Nat) (hT : T ≤ xs.length) :
    ∃ ad, piece a 0 T = .slice ad T T ∧ IntsAt w (.slice ad (xs.take T).length T) (xs.take T) := by
  obtain ⟨a', cap', e, hlc, hcm, hnil, hc⟩ := h
  injection e with e1 e2 e3
  subst e1 e3
  have el : (xs.take T).length = T := by simp; omega
  rw [el]
  by_cases h0 : T = 0
  · subst h0
    exact ⟨a, piece_none _ _, a, 0, by simp, by simp, by decide, fun _ => rfl, fun h => by simp at h⟩
  · obtain ⟨b, off, rfl, hb, hcc⟩ := hc (by omega)
    refine ⟨_, piece_at b off 0 T (by omega), _, T, by rw [el], by omega, by unfold maxLen; omega, fun h => by simp at h, fun _ => ⟨b, off + 0, rfl, hb, fun k hk => ?_⟩⟩
    rw [el] at hk
    have := hcc k (by omega)
    rw [Nat.add_zero, this]
    simp [List.getD_eq_getElem?_getD, hk]

/-- A block that holds a chunk is no row of numbers. -/
theorem chunk_not_row {W : World} {b : Nat} {cs : Array Value} (h : W.heap[b]? = some (Obj.cells cs 44 (0, 0))) {base k : Nat} {v : Value} {xs : List Value} (hr : W.ownsRow base 2 1 v k xs) : some b ≠ v.ownBlock := by
  rcases hr.2 with ⟨rfl, _⟩ | ⟨g, cap, cur, rfl, _, hgb, _⟩
  · simp [Value.ownBlock]
  · intro e'
    obtain rfl : b = g := by simpa [Value.ownBlock] using e'
    have := h.symm.trans hgb
    simp at this

/-- Behind 'places = append(places, at)': all that the walk of the round owes. -/
theorem app_step {W w1 : World} {n₀ P E Br Bx k m : Nat} {v v' e r u : Value} {xs ys : List Value} {tmp : Obj} {s f c h : Int} {p q : Bool}
    (bP : Boxed W P 22 v) (hrow : W.ownsRow n₀ 2 1 v k xs) (hvE : v.ownBlock ≠ some E) (bE : Boxed W E 2 e) (bR : Boxed W Br 22 r) (M : ChAt W Bx s f c h p q u)
    (hn₀ : n₀ ≤ W.heap.size) (hP : n₀ ≤ P) (hPE : E ≠ P) (hPR : Br ≠ P)
    (hown' : w1.ownsRow n₀ 2 1 v' m ys) (hgrow : (W.alloc tmp).grownBy w1 v.ownBlock) (hat : v'.ownBlock = v.ownBlock ∨ v'.ownBlock = some (W.alloc tmp).heap.size) :
    Boxed w1 P 22 v ∧ Boxed (w1.setCell ⟨P, 0, none⟩ v') P 22 v' ∧ (w1.setCell ⟨P, 0, none⟩ v').ownsRow n₀ 2 1 v' m ys ∧ KeepsOthers W (w1.setCell ⟨P, 0, none⟩ v') ∧ Below n₀ W (w1.setCell ⟨P, 0, none⟩ v') ∧
      Boxed (w1.setCell ⟨P, 0, none⟩ v') E 2 e ∧ Boxed (w1.setCell ⟨P, 0, none⟩ v') Br 22 r ∧ ChAt (w1.setCell ⟨P, 0, none⟩ v') Bx s f c h p q u ∧ v'.ownBlock ≠ some E ∧
      ∀ (b : Nat) (cs : Array Value), W.heap[b]? = some (Obj.cells cs 44 (0, 0)) → (w1.setCell ⟨P, 0, none⟩ v').heap[b]? = some (Obj.cells cs 44 (0, 0)) := by
  obtain ⟨a1, a2, a3, a4, a5⟩ := bP.appended (by decide) hrow hn₀ hP hown' hgrow
  have CK : ∀ (b : Nat) (cs : Array Value), W.heap[b]? = some (Obj.cells cs 44 (0, 0)) → (w1.setCell ⟨P, 0, none⟩ v').heap[b]? = some (Obj.cells cs 44 (0, 0)) := fun b cs hb => by
    have hne : b ≠ P := fun e' => by
      subst e'
      have := hb.symm.trans bP
      simp at this
    have hlt := (Array.getElem?_eq_some_iff.1 hb).1
    exact (Below.heap_setCell w1 ⟨P, 0, none⟩ v' b hne).trans ((hgrow.block b (by simp; omega) (chunk_not_row hb hrow)).trans ((Below.heap_alloc W tmp b hlt).trans hb))
  refine ⟨a1, a2, a3, a4, a5, ((bE.alloc tmp).kept hgrow (fun e' => hvE e'.symm)).other hPE v', ((bR.alloc tmp).kept hgrow (bR.not_row (by decide) hrow)).other hPR v', CK _ _ M, ?_, CK⟩
  rcases hat with e' | e'
  · rw [e']; exact hvE
  · rw [e']
    intro e2
    injection e2 with e2
    have := bE.lt
    simp at e2
    omega

/-- Behind 'end = at + c.size()'. -/
theorem end_step {W : World} {n₀ P E Br m : Nat} {v e e' r : Value} {ys : List Value} {o : Obj}
    (bP : Boxed W P 22 v) (hrow : W.ownsRow n₀ 2 1 v m ys) (hvE : v.ownBlock ≠ some E) (bE : Boxed W E 2 e) (bR : Boxed W Br 22 r) (hn₀ : n₀ ≤ W.heap.size) (hE : n₀ ≤ E) (hPE : E ≠ P) (hER : E ≠ Br) :
    Boxed ((W.alloc o).setCell ⟨E, 0, none⟩ e') P 22 v ∧ ((W.alloc o).setCell ⟨E, 0, none⟩ e').ownsRow n₀ 2 1 v m ys ∧ Boxed ((W.alloc o).setCell ⟨E, 0, none⟩ e') E 2 e' ∧ Boxed ((W.alloc o).setCell ⟨E, 0, none⟩ e') Br 22 r ∧ KeepsOthers W ((W.alloc o).setCell ⟨E, 0, none⟩ e') ∧ Below n₀ W ((W.alloc o).setCell ⟨E, 0, none⟩ e') ∧
      ∀ (b : Nat) (cs : Array Value), W.heap[b]? = some (Obj.cells cs 44 (0, 0)) → ((W.alloc o).setCell ⟨E, 0, none⟩ e').heap[b]? = some (Obj.cells cs 44 (0, 0)) := by
  refine ⟨(bP.alloc o).other (Ne.symm hPE) e', (hrow.alloc o).kept (grownBy_setCell' _ E e') (.inr hvE), (bE.alloc o).set e', (bR.alloc o).other (Ne.symm hER) e', (KeepsOthers.alloc W o).trans (KeepsOthers.setCell _ _ _), ((Below.refl n₀ W).alloc hn₀ o).setCell (p := ⟨E, 0, none⟩) hE e', fun b cs hb => ?_⟩
  have hne : b ≠ E := fun e1 => by
    subst e1
    have := hb.symm.trans bE
    simp at this
  exact (Below.heap_setCell _ ⟨E, 0, none⟩ e' b hne).trans ((Below.heap_alloc W o b (Array.getElem?_eq_some_iff.1 hb).1).trans hb)

theorem own_first {W : World} {base g : Nat} (hg : W.heap[g]? = some (.cells #[] 2 (0, 0))) (hb : base ≤ g) : W.ownsRow base 2 1 (.slice (some ⟨g, 0, none⟩) 0 0) 0 [] :=
  ⟨rfl, .inr ⟨g, 0, #[], rfl, hb, hg, Nat.le_refl _, by decide, rfl, rfl⟩⟩

attribute [local go_sem] Oper.semAt_some

set_option maxRecDepth 100000 in
set_option maxHeartbeats 4000000 in
theorem walk_yes {w : World} {a : Option Addr} {cap : Nat} {xs : List Int} (h : IntsAt w (.slice a xs.length cap) xs) (ha : AllI xs) (dr : rowOk xs = true) (F T : Nat) (hFT : F ≤ T) (hT : T ≤ xs.length) :
    Calls Tryz.prog 125 #[.slice a xs.length cap, .int .i64 F, .int .i64 T] w fun e w' => ∃ v', e = .returned (.tuple #[v', .bool (walkOk xs F T)]) ∧ rows.Own w' w.heap.size v' (walked xs F T) ∧ Below w.heap.size w w' := by
  have hr := rowOk_true dr
  have h' := h
  obtain ⟨a', cap', e, hlc, hcm, hnil, _⟩ := h
  injection e with e1 e2 e3
  subst e1 e3
  obtain ⟨ad, hp, hI⟩ := piece_ints h' (by omega) T hT
  have CUT := callsIn_wide (n := 8 - 1).2 (cut_yes (w := w) (a := a) hlc hcm 0 T (by omega))
  rw [hp] at CUT
  have ROW := callsIn_wide (n := 8 - 1).2 (isRow_any h')
  rw [dr] at ROW
  clear hp
  refine callsIn_wide (n := 8).1 ?_
  refine callsIn_of_wp_marks Tryz.func125 rfl trivial ?_ rfl
  simp only [Tryz.ntmps125, List.size_toArray, List.length_cons, List.length_nil, Nat.reduceAdd, Nat.reduceSub, Array.replicate_succ, Array.replicate_zero, List.push_toArray, List.append_toArray, List.nil_append, List.cons_append]
  gi_wp2_with fail
  refine ⟨trivial, CUT.mono ?_⟩
  rintro e w1 ⟨rfl, hw1⟩
  rw [hw1]
  clear hw1 w1 CUT
  gi_wp2_with fail
  refine ⟨trivial, ROW.mono ?_⟩
  rintro e w1 ⟨rfl, hw1⟩
  rw [hw1]
  clear hw1 w1 ROW
  have hf1 : ¬ (F : Int) < 0 := by omega
  have hf2 : ¬ (F : Int) > T := by omega
  gi_wp2_with fail
  refine ⟨trivial, (callsIn_wide.2 (chunks_any ad T T F _)).mono ?_⟩
  rintro e w1 ⟨rfl, hw1⟩
  have B0 : Below w.heap.size w w1 := by
    rw [hw1]
    exact ((((((Below.refl _ w).alloc (Nat.le_refl _) _).alloc (by simp) _).alloc (by simp; omega) _).alloc (by simp; omega) _).alloc (by simp; omega) _)
  have s0 : w1.heap.size = w.heap.size + 5 := by rw [hw1]; simp
  have E0 : w1.heap[w.heap.size]? = some (.cells #[] 2 (0, 0)) := by
    rw [hw1]
    exact (Below.heap_alloc _ _ _ (by simp; omega)).trans ((Below.heap_alloc _ _ _ (by simp; omega)).trans ((Below.heap_alloc _ _ _ (by simp; omega)).trans ((Below.heap_alloc _ _ _ (by simp)).trans (heap_alloc_new w _))))
  have bP : Boxed w1 (w.heap.size + 1) 22 (.slice (some ⟨w.heap.size, 0, none⟩) 0 0) := by
    rw [hw1]
    have := Boxed.new (w.alloc (.cells #[] 2)) 22 (.slice (some ⟨w.heap.size, 0, none⟩) 0 0)
    rw [World.size_alloc] at this
    exact ((this.alloc _).alloc _).alloc _
  have bE : Boxed w1 (w.heap.size + 1 + 1) 2 (.int .i64 F) := by
    rw [hw1]
    have := Boxed.new ((w.alloc (.cells #[] 2)).alloc (.cells #[.slice (some ⟨w.heap.size, 0, none⟩) 0 0] 22)) 2 (.int .i64 F)
    rw [World.size_alloc, World.size_alloc] at this
    exact (this.alloc _).alloc _
  have bR : Boxed w1 (w.heap.size + 1 + 1 + 1) 22 (.slice ad T T) := by
    rw [hw1]
    have := Boxed.new (((w.alloc (.cells #[] 2)).alloc (.cells #[.slice (some ⟨w.heap.size, 0, none⟩) 0 0] 22)).alloc (.cells #[.int .i64 F] 2)) 22 (.slice ad T T)
    rw [World.size_alloc, World.size_alloc, World.size_alloc] at this
    exact this.alloc _
  have bF : Boxed w1 (w.heap.size + 1 + 1 + 1 + 1) 2 (.int .i64 F) := by
    rw [hw1]
    have := Boxed.new ((((w.alloc (.cells #[] 2)).alloc (.cells #[.slice (some ⟨w.heap.size, 0, none⟩) 0 0] 22)).alloc (.cells #[.int .i64 F] 2)).alloc (.cells #[.slice ad T T] 22)) 2 (.int .i64 F)
    rw [World.size_alloc, World.size_alloc, World.size_alloc, World.size_alloc] at this
    exact this
  have hI' : ∀ W, Below w.heap.size w1 W → IntsAt W (.slice ad (xs.take T).length T) (xs.take T) := fun W hW => intsAt_below hI (B0.trans hW)
  have el : (xs.take T).length = T := by simp; omega
  have bR' : Boxed w1 (w.heap.size + 1 + 1 + 1) 22 (.slice ad (xs.take T).length T) := by rw [el]; exact bR
  have haT : AllI (xs.take T) := allI_take ha T
  have hWB := walk_by hT (by omega) (T - F) F (Nat.le_refl _) hFT
  have STOPS := chunks_stops (8 - 1) (by decide) (w.heap.size + 1 + 1 + 1) (w.heap.size + 1 + 1 + 1 + 1) w.heap.size F ad T (xs.take T) (by omega) haT (by omega) w1 (by omega) (by omega) (by omega) bR' bF.cell hI'
  have hlen := plO_length (xs.take T) F
  have CH := chunk_le (xs.take T)
  have CN := chunk_nat (xs.take T)
  rw [el] at hlen CH
  obtain ⟨i0, hi, hz0, hz1, hz2⟩ := info_parts info
  generalize xs.take T = ys at *
  clear bR' bF hI' haT
  gi_wp2_with fail
  rw [← hw1]
  clear hw1
  refine wpIn_rangeFunc_ownH rfl (by decide) (gf := 150) (lb := #[.pointer (some ⟨w.heap.size + 1 + 1 + 1 + 1, 0, none⟩), .pointer (some ⟨w.heap.size + 1 + 1 + 1, 0, none⟩)]) rfl trivial (enters_of Tryz.func150 (by kernel_rfl) rfl)
    STOPS kc_t (kc_b (by omega) (by omega)) (Below.refl _ _) (fun _ => rfl)
    (fun pre W => (∃ v, Boxed W (w.heap.size + 1) 22 v ∧ W.ownsRow w.heap.size 2 1 v pre.length (cellsOf (pre.map (fun p => (p.val : Int)))) ∧ v.ownBlock ≠ some (w.heap.size + 1 + 1)) ∧ Boxed W (w.heap.size + 1 + 1) 2 (.int .i64 (enf ys F pre)) ∧ Boxed W (w.heap.size + 1 + 1 + 1) 22 (.slice ad T T) ∧ Below w.heap.size w W)
    (fun _ _ _ => False)
    (OwnFrom.and (Own.from (holdsRow_own w.heap.size (w.heap.size + 1) 22 2 1 (fun pre : List Pl => pre.length) (fun pre : List Pl => cellsOf (pre.map (fun p => (p.val : Int)))) (fun _ v => v.ownBlock ≠ some (w.heap.size + 1 + 1))) _) (OwnFrom.and (Own.from (boxed_own _ _ (fun pre => Value.int .i64 (enf ys F pre))) _) (OwnFrom.and (Own.from (boxed_own _ _ (fun _ => Value.slice ad T T)) _) (ownFrom_below (Nat.le_refl _) (by omega)))))
    (fun _ _ _ _ _ hs _ _ => hs)
    ⟨⟨_, bP, own_first E0 (Nat.le_refl _), fun e => by have e' : w.heap.size = w.heap.size + 1 + 1 := Option.some.inj e; omega⟩, bE, bR, B0⟩
    (fun x a' W => ∃ Bx, w.heap.size + 1 + 1 + 1 < Bx ∧ ChAt W Bx (uS (ys.getD x.val 0)) (uF (ys.getD x.val 0)) (uC (ys.getD x.val 0)) (uH (ys.getD x.val 0)) (uP (ys.getD x.val 0)) (uM (ys.getD x.val 0)) (piece ad x.val (chunk ys x.val).toNat) ∧
      a' = { tmps := #[.slice a xs.length cap, .int .i64 F, .int .i64 T, undef, undef, undef, .slice none 0 0, .bool false, .slice ad T T, .bool true, .pointer (some ⟨w.heap.size + 1, 0, none⟩), .pointer (some ⟨w.heap.size + 1 + 1, 0, none⟩), .int .i64 (x.val : Int), .pointer (some ⟨Bx, 0, none⟩),
        .tuple #[.slice ad T T, .bool true], .slice a xs.length cap, .int .i64 T, .tuple #[.slice ad T T, .bool true], .slice ad T T, .bool true, .slice a xs.length cap, .bool true, .bool false, .bool false, .bool true, .bool false, .bool false, .bool false, .int .i64 F,
        .bool (decide ((F : Int) < 0)), .bool (decide ((F : Int) < 0)), .bool (decide ((F : Int) < 0)), .int .i64 F, .int .i64 T, .bool false, .bool (decide ((F : Int) < 0)), .slice (some ⟨w.heap.size, 0, none⟩) 0 0, .int .i64 F, .slice ad T T, .int .i64 F,
        .func (.func 150) #[] #[.pointer (some ⟨w.heap.size + 1 + 1 + 1 + 1, 0, none⟩), .pointer (some ⟨w.heap.size + 1 + 1 + 1, 0, none⟩)], .int .i64 (x.val : Int), cv (uS (ys.getD x.val 0)) (uF (ys.getD x.val 0)) (uC (ys.getD x.val 0)) (uH (ys.getD x.val 0)) (uP (ys.getD x.val 0)) (uM (ys.getD x.val 0)) (piece ad x.val (chunk ys x.val).toNat), undef, undef, undef, undef, undef, undef, undef, undef, undef, undef, undef, undef], defers := [] })
    (fun x a' _ X Y row hs hg hr => by
      obtain ⟨Bx, h1, h2, h3⟩ := hs
      exact ⟨Bx, h1, (hg.block Bx (lt_of_block h2) (fun e => by obtain ⟨_, o, ho, hc⟩ := hr Bx e.symm; rw [show X.heap[Bx]? = _ from h2] at ho; cases ho; cases hc)).trans h2, h3⟩)
    ?assign ?body ?done ?stop
  case assign =>
    rintro l pre x W K ⟨⟨v, c1, c2, c3⟩, c4, c5, c6⟩ hK
    have sW := c6.size
    have hlt := c5.lt
    simp only [encs, piece] at hK ⊢
    generalize uS (ys.getD x.val 0) = s at *
    generalize uF (ys.getD x.val 0) = f at *
    generalize uC (ys.getD x.val 0) = c at *
    generalize uH (ys.getD x.val 0) = g at *
    generalize uP (ys.getD x.val 0) = p at *
    generalize uM (ys.getD x.val 0) = m at *
    generalize (chunk ys x.val).toNat = N at *
    generalize (if N = 0 then ad else Option.map (fun y => y.add x.val) ad) = pd at *
    gi_wp2
    exact hK _ _ ((KeepsOthers.alloc _ _).from _) ⟨(Below.refl _ W).alloc sW _, Below.heap_alloc W _ _ hlt, fun b cs hb => (Below.heap_alloc W _ b (Array.getElem?_eq_some_iff.1 hb).1).trans hb⟩ ⟨⟨v, c1.alloc _, c2.alloc _, c3⟩, c4.alloc _, c5.alloc _, c6.alloc sW _⟩ ⟨W.heap.size, hlt, chAt_new W s f c g p m (.slice pd N N), rfl⟩
  case body =>
    rintro l pre x a' W hl ⟨r, hr'⟩ ⟨⟨v, c1, c2, c3⟩, c4, c5, c6⟩ ⟨Bx, hBx, M, rfl⟩ hlt
    have sW := c6.size
    have x1 := x.isLt
    have x2 := CH x.val
    have x3 := CN x.val
    generalize hN : (chunk ys x.val).toNat = N at *
    have es : enf ys F (pre ++ [x]) = (x.val : Int) + N := by rw [enf_snoc, x3]
    have em : cellsOf ((pre ++ [x]).map (fun p => (p.val : Int))) = cellsOf (pre.map (fun p => (p.val : Int))) ++ [.int .i64 (x.val : Int)] := by simp [cellsOf]
    have hN1 : N ≤ 1000 := by omega
    have ep : (pre ++ [x]).length = pre.length + 1 := by simp
    unfold piece at M ⊢
    generalize uS (ys.getD x.val 0) = s at *
    generalize uF (ys.getD x.val 0) = f at *
    generalize uC (ys.getD x.val 0) = c at *
    generalize uH (ys.getD x.val 0) = g at *
    generalize uP (ys.getD x.val 0) = p at *
    generalize uM (ys.getD x.val 0) = m at *
    generalize (if N = 0 then ad else Option.map (fun y => y.add x.val) ad) = pd at *
    generalize hpost : pre ++ [x] = post at *
    generalize hxv : (x.val : Int) = xv at *
    have hx1 : 0 ≤ xv ∧ xv ≤ 1000 := by omega
    generalize hcs : cellsOf (pre.map (fun p => (p.val : Int))) = cs at *
    have hpl : pre.length < 1000 := by omega
    have cP := c1.cell
    have hfin : ∀ (v' : Value) (w1 : World), w1.ownsRow w.heap.size 2 1 v' (pre.length + 1) (cs ++ [.int .i64 xv]) → (W.alloc (.cells #[.int .i64 xv] 2)).grownBy w1 v.ownBlock → (v'.ownBlock = v.ownBlock ∨ v'.ownBlock = some (W.alloc (.cells #[.int .i64 xv] 2)).heap.size) → _ := fun v' w1 q1 q2 q3 => app_step c1 c2 c3 c4 c5 M sW (by omega) (by omega) (by omega) q1 q2 q3
    have HF : Hid _ := hfin
    have HE : Hid _ := (⟨es, em, ep⟩ : _ ∧ _ ∧ _)
    clear hfin es em ep M hpost hxv x2 x3 STOPS CH CN E0 bP bE bR hcs hN hI
    have SZ : ∀ W, _ := fun W => callsIn_wide (n := 8 - 1 - 1 - 1).2 (size_any s f c g p m pd N N W)
    gi_wp2_with (first
      | (gi_at_builtin; refine wpListIn_append_own_at _ rfl _ _ 22 rfl w.heap.size 2 i0 (.int .i64 0) 1 8 Tryz.underlying22 hi hz0 hz1 hz2 rfl (by decide) _ _ _ rfl (c2.alloc _) ⟨W.heap.size, 0, none⟩ 1 1 [.int .i64 xv] rfl rfl (cell_one_new _ _ _) (by simp [Value.oneCell']) (by unfold maxLen; omega) (by omega) (by simp; omega) ?_
         intro v' w1 hown' hgrow _ hat
         obtain ⟨g', cap', rfl⟩ := ownsRow_succ hown'
         obtain ⟨q1, q2, q3, q4, q5, q6, q7, q8, q9, q10⟩ := HF.out _ _ hown' hgrow hat
         have hc1 := q1.cell
         have hf1 := q1.frozen
         have hc6 := (q6.alloc (cb s f c g p m (.slice pd N N))).cell
         have hf6 := (q6.alloc (cb s f c g p m (.slice pd N N))).frozen
         obtain ⟨m0, m1, m2, m3, m4, m5, m6, _⟩ := chAt_cells q8
         have H2 : Hid _ := q2
         have H3 : Hid _ := q3
         have H4 : Hid _ := q4
         have H5 : Hid _ := q5
         have H6 : Hid _ := q6
         have H7 : Hid _ := q7
         have H9 : Hid _ := q9
         have H10 : Hid _ := q10
         clear hown' hgrow hat q1 q2 q3 q4 q5 q6 q7 q8 q9 q10 HF c1 c2 c4 cP
         have c5' : Boxed W _ _ _ := c5
         clear c5)
      | (refine ⟨trivial, ?_⟩; gi_at_call 69; refine (CallsIn.inRound l (SZ _)).mono ?_; rintro e w' ⟨rfl, rfl⟩))
    obtain ⟨es, em, ep⟩ := HE.out
    obtain ⟨p1, p2, p3, p4, p5, p6, p7⟩ := end_step (o := cb s f c g p m (.slice pd N N)) (e' := .int .i64 (xv + N)) H2.out H3.out H9.out H6.out H7.out (Nat.le_trans sW H5.out.size) (by omega) (by omega) (by omega)
    refine ⟨(H4.out.trans p5).from _, ⟨H5.out.trans p6, p4.trans c5'.symm, fun b cs hb => p7 b cs (H10.out b cs hb)⟩, ⟨_, p1, ?_, H9.out⟩, ?_, p4, (c6.trans H5.out).trans p6⟩
    · rw [ep, em]; exact p2
    · rw [es]; exact p3
  case done =>
    rintro D zs W hD rfl ⟨⟨v, c1, c2, c3⟩, c4, c5, c6⟩ hK
    have cP := c1.cell
    have cE := c4.cell
    have hBD := c6.trans (belowK_b (w := w) (Nat.le_refl _) W D _ (.deferred none) (by omega) hK rfl rfl)
    have RG : rangeOk xs F T = true := by simp only [rangeOk, dr, Bool.true_and, decide_eq_true_eq]; omega
    by_cases hend : enf ys F (plO ys F) = T
    · rw [if_pos hend] at hWB
      have wk : walkR xs F T = some ((plO ys F).map (fun p => (p.val : Int))) := by unfold walkR; rw [if_pos RG]; exact hWB
      have w1' : walkOk xs F T = true := by unfold walkOk; rw [wk]; rfl
      have w2' : walked xs F T = (plO ys F).map (fun p => (p.val : Int)) := by unfold walked; rw [wk]; rfl
      rw [hend] at cE
      have HO : Hid (rows.Own (W.putObj D (.deferred none)) w.heap.size v ((plO ys F).map (fun p => (p.val : Int)))) := by
        have := ownsRow_putObj c2 (.deferred none) hK rfl
        show World.ownsRow _ _ _ _ _ _ _
        rw [List.length_map]
        exact this
      have HBD : Hid _ := hBD
      have HW : Hid (walkOk xs F T = true ∧ walked xs F T = (plO ys F).map (fun p => (p.val : Int))) := ⟨w1', w2'⟩
      clear hWB wk w1' w2' hBD c1 c2 c3 c4 c5 c6 STOPS CH CN E0 bP bE bR hI RG hend B0
      gi_wp2
      refine ⟨by simp, .inl ⟨_, _, rfl, run_takeDeferred hK, ?_⟩⟩
      exact ⟨_, results_tmp2 rfl _ _ _, v, by rw [HW.out.1]; rfl, by rw [HW.out.2]; exact HO, HBD⟩
    · rw [if_neg hend] at hWB
      have wk : walkR xs F T = none := by unfold walkR; rw [if_pos RG]; exact hWB
      have w1' : walkOk xs F T = false := by unfold walkOk; rw [wk]; rfl
      have w2' : walked xs F T = [] := by unfold walked; rw [wk]; rfl
      have HBD : Hid _ := hBD
      have HW : Hid (walkOk xs F T = false ∧ walked xs F T = []) := ⟨w1', w2'⟩
      clear hWB wk w1' w2' hBD c1 c2 c3 c4 c5 c6 STOPS CH CN E0 bP bE bR hI RG B0
      generalize enf ys F (plO ys F) = en at *
      have hend' : (en == (T : Int)) = false := by simpa using hend
      gi_wp2
      refine ⟨by simp, .inl ⟨_, _, rfl, run_takeDeferred hK, ?_⟩⟩
      exact ⟨_, results_tmp2 rfl _ _ _, _, by rw [HW.out.1]; rfl, by rw [HW.out.2]; exact own_nil _ _, HBD⟩
  case stop =>
    rintro D c pre W _ _ h _
    exact h.elim

theorem implWalk (w : World) (v : Value) (xs : List Int) (f : Int) (t : Int) (h : IntsAt w v xs) (_hl : xs.length ≤ 1048576) (ha : AllI xs) (_hf : I64 f) (ht : I64 t) :
    Calls Tryz.prog 125 #[v, .int .i64 f, .int .i64 t] w fun e w' => ∃ v', e = .returned (.tuple #[v', .bool (walkOk xs f t)]) ∧ rows.Own w' w.heap.size v' (walked xs f t) ∧ Below w.heap.size w w' := by
  cases d : rangeOk xs f t
  · have wk : walkR xs f t = none := by unfold walkR; rw [d]; rfl
    have w1 : walkOk xs f t = false := by unfold walkOk; rw [wk]; rfl
    have w2 : walked xs f t = [] := by unfold walked; rw [wk]; rfl
    rw [w1, w2]
    exact walk_no h ht d
  · have d' := d
    simp only [rangeOk, Bool.and_eq_true, decide_eq_true_eq] at d'
    obtain ⟨dr, f0, ft, tl⟩ := d'
    obtain ⟨F, rfl⟩ := Int.eq_ofNat_of_zero_le f0
    obtain ⟨T, rfl⟩ : ∃ T : Nat, t = T := Int.eq_ofNat_of_zero_le (by omega)
    have h' := h
    obtain ⟨a, cap, rfl, _, _, _, _⟩ := h
    exact walk_yes h' ha dr F T (by omega) (by omega)
end Go.Proofs.YtemlagfaaibenaaGreat.walks
