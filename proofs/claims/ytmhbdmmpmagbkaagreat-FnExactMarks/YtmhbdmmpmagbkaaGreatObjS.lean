/-
  Chapter 4 as the specification has it: ObjectAt.
  Made from the template ObjS.
-/
import Derived.Test.YtmhbdmmpmagbkaaGreatWalkS2
import Derived.Test.YtmhbdmmpmagbkaaGreatHeadMem
import Derived.Deep.RegionLaw
namespace Go.Proofs.YtmhbdmmpmagbkaaGreat.walks
open Go.RowKit rows heads words
set_option maxRecDepth 100000

/-- A head as a word tells it. -/
abbrev hw (n : Int) : Value := hv (uS n) (uF n) (uC n) (uH n) (uP n) (uM n)
theorem hw_none : hw (-1) = hv 0 0 0 0 false false := by
  have e : ok (-1) = false := by simp [ok]
  simp only [hw, uS, uF, uC, uH, uP, uM, e, Bool.false_eq_true, if_false]

theorem l4Head_any {w : World} {v : Value} {xs : List Int} (h : IntsAt w v xs) (k : Nat) (hk : k < xs.length) :
    Calls Tryz.prog 55 #[v, .int .i64 k] w fun e w' => e = .returned (hw (xs.getD k 0)) ∧ Below w.heap.size w w' := by
  obtain ⟨a, cap, rfl, hlc, hcm, _, hc⟩ := h
  obtain ⟨b, off, rfl, hb, hcc⟩ := hc (by omega)
  have c0 := hcc k hk
  clear hc hcc
  generalize xs.getD k 0 = x at *
  unfold maxLen at hcm
  have U := sUnpacked_any x
  unfold hw
  generalize uS x = s at *
  generalize uF x = f at *
  generalize uC x = c at *
  generalize uH x = g at *
  generalize uP x = p at *
  generalize uM x = m at *
  go_enter Tryz.func55, Tryz.ntmps55
  go_wp2_with fail
  refine (U _).mono ?_
  rintro e w1 ⟨rfl, B1⟩
  have B0 : Below w.heap.size w w1 := ((Below.refl _ w).alloc (Nat.le_refl _) _).trans (B1.mono (by simp))
  have sz1 := B1.size
  have T1 : HeadAt w1 w.heap.size 0 0 0 0 false false := (B1.block w.heap.size (by simp)).trans (heap_alloc_new w _)
  obtain ⟨k0, k1, k2, k3, k4, k5, fz⟩ := headAt_cells T1
  have hlt := lt_of_block T1
  simp only [World.size_alloc] at sz1
  clear B1 U
  go_wp2
  exact bodyPost_ret (res_head_at rfl rfl (headAt_alloc (six_set T1 s f c g p m) _)) rfl ⟨rfl, (six_below B0 (Nat.le_refl _) s f c g p m).alloc (by simp; omega) _⟩

theorem l4Count_any (s f c h : Int) (p m : Bool) (w : World) :
    Calls Tryz.prog 72 #[hv s f c h p m] w fun e w' => e = .returned (.int .i64 (if f = 7 then 1 else if f = 6 then 0 else s)) ∧ w' = w.alloc (hb s f c h p m) := by
  by_cases h7 : f = 7
  · subst h7
    go_enter Tryz.func72, Tryz.ntmps72
    go_wp2
    go_ret
    exact ⟨rfl, rfl⟩
  · have h7' : (f == 7) = false := by simpa using h7
    rw [if_neg h7]
    by_cases h6 : f = 6
    · subst h6
      go_enter Tryz.func72, Tryz.ntmps72
      go_wp2
      go_ret
      exact ⟨rfl, rfl⟩
    · have h6' : (f == 6) = false := by simpa using h6
      rw [if_neg h6]
      go_enter Tryz.func72, Tryz.ntmps72
      go_wp2
      go_ret
      exact ⟨rfl, rfl⟩

theorem own_nothing' {w : World} {base g : Nat} (hg : g = w.heap.size) (hb : base ≤ g) : Own (w.alloc (.cells #[] 2)) base (.slice (some ⟨g, 0, none⟩) 0 0) [] := by
  subst hg; exact own_nothing w base hb
theorem field_format (s f c h : Int) (p m : Bool) (w : World) : (Instr.field 69 (hv s f c h p m) 1).run Tryz.prog w = .ok (.int .i64 f) w := rfl

/-- A row stays where a cell below it is written. -/
theorem own_other {w : World} {base : Nat} {v : Value} {xs : List Int} (h : Own w base v xs) {q : Addr} (hq : q.block < base) (u : Value) : Own (w.setCell q u) base v xs := by
  obtain ⟨h0, ⟨h1, h2⟩ | ⟨g, cap, cur, h1, hg, hh, hle, hm, hs, ht⟩⟩ := h
  · exact ⟨h0, .inl ⟨h1, h2⟩⟩
  · exact ⟨h0, .inr ⟨g, cap, cur, h1, hg, (Below.heap_setCell w q u g (by omega)).trans hh, hle, hm, hs, ht⟩⟩
theorem own_six {X : World} {base b : Nat} {v : Value} {xs : List Int} (hO : Own X base v xs) (hb : b < base) (s f c h : Int) (p m : Bool) :
    Own ((((((X.setCell ⟨b, 0, none⟩ (.int .i64 s)).setCell ⟨b, 1, none⟩ (.int .i64 f)).setCell ⟨b, 2, none⟩ (.int .i64 c)).setCell ⟨b, 3, none⟩ (.int .i64 h)).setCell ⟨b, 4, none⟩ (.bool p)).setCell ⟨b, 5, none⟩ (.bool m)) base v xs :=
  own_other (own_other (own_other (own_other (own_other (own_other hO hb _) hb _) hb _) hb _) hb _) hb _

/-- An empty row that was just made, wherever it lies. -/
theorem own_empty {W : World} {base g : Nat} (hg : W.heap[g]? = some (.cells #[] 2 (0, 0))) (hb : base ≤ g) : W.ownsRow base 2 1 (.slice (some ⟨g, 0, none⟩) 0 0) 0 [] :=
  ⟨rfl, .inr ⟨g, 0, #[], rfl, hb, hg, Nat.le_refl _, by decide, rfl, rfl⟩⟩

theorem empty_first (X : World) (o : Obj) : ((X.alloc (.cells #[] 2)).alloc o).drew.heap[X.heap.size]? = some (.cells #[] 2 (0, 0)) :=
  (Below.heap_alloc _ o _ (by simp)).trans (heap_alloc_new X _)
theorem empty_last (X : World) (o : Obj) : ((X.alloc o).alloc (.cells #[] 2)).drew.heap[X.heap.size + 1]? = some (.cells #[] 2 (0, 0)) := by
  have := heap_alloc_new (X.alloc o) (.cells #[] 2 (0, 0))
  rw [World.size_alloc] at this
  exact this

/-- 'append([]int64{}, ..)' as one step of a region that leaves its order open. -/
theorem step_copied {X W : World} {ops : Array Oper} {o : Oper} {a : Act} {K : Act → World → Prop} {Q : Exit → Act → World → Prop} {E : Prop} (hgd : o.guard = none) (s x : Operand)
    (ho : o.op = .call { callee := .builtin .append, args := #[s, x], argTypes := #[22, 22] }) (base g : Nat) (hs : a.eval s = .slice (some ⟨g, 0, none⟩) 0 0) (hg : W.heap[g]? = some (.cells #[] 2 (0, 0))) (hb : base ≤ X.heap.size) (hX : Below X.heap.size X W) (hXg : X.heap.size ≤ g)
    (ad : Addr) (m c : Nat) (ys : List Int) (hx : a.eval x = .slice (some ad) m c) (hm : ys.length = m) (hnews : ∀ W, Below X.heap.size X W → ∀ j u, (cellsOf ys)[j]? = some u → W.cell? (ad.add j) = some u) (hl : m ≤ 1048576)
    (h : ∀ v' w', Own w' base v' ys → Below X.heap.size X w' → K (a.put o.dst v') w') :
    if Region.wanted o (yielded ops a.tmps) = true then Oper.wp Tryz.prog o a W K Q else E := by
  obtain ⟨i0, hi, hz0, hz1, hz2⟩ := info_parts info
  have hw : Region.wanted o (yielded ops a.tmps) = true := by simp [Region.wanted, hgd]
  rw [if_pos hw]
  subst hm
  refine wp_append_own _ s x 22 ho base 2 i0 (.int .i64 0) 1 8 Tryz.underlying22 hi hz0 hz1 hz2 rfl (by decide) _ 0 [] hs (own_empty hg (Nat.le_trans hb hXg)) ad ys.length c (cellsOf ys) hx (by simp) (hnews W hX) (ints_oneCell _ _) (by unfold maxLen; omega) (by omega) (Nat.le_trans hb hX.size) ?_
  intro v' w' hown hgrow _
  refine h v' w' ?_ (hX.grown hgrow hX.size (fun k e => by cases e; exact hXg))
  rw [Nat.zero_add, List.nil_append] at hown
  exact hown

/-- Where the piece from j on begins, and what may be read there. -/
theorem piece_from {X : World} {b off cap : Nat} {xs : List Int} {j n : Nat} (hc : ∀ i, i < xs.length → X.cell? ⟨b, off + i, none⟩ = some (.int .i64 (xs.getD i 0))) (hj : j + n ≤ xs.length) (hcap : xs.length ≤ cap) (hb : b < X.heap.size) :
    ∃ ad : Addr, (if cap = j then some (⟨b, off, none⟩ : Addr) else some ⟨b, off + j, none⟩) = some ad ∧ ∀ W, Below X.heap.size X W → ∀ i u, (cellsOf ((xs.drop j).take n))[i]? = some u → W.cell? (ad.add i) = some u := by
  by_cases h0 : cap = j
  · obtain rfl : n = 0 := by omega
    exact ⟨_, by rw [if_pos h0], fun W _ i u h => by simp at h⟩
  · refine ⟨⟨b, off + j, none⟩, ?_, fun W hW i u hi => ?_⟩
    · rw [if_neg h0]
    · have hlt : i < n := by
        have := (List.getElem?_eq_some_iff.1 hi).1
        simp at this
        omega
      have := (hW.cell (p := ⟨b, off + (j + i), none⟩) hb).trans (hc (j + i) (by omega))
      simp [cellsOf, hlt] at hi
      obtain ⟨y, hy, rfl⟩ := hi
      rw [List.getD_eq_getElem?_getD, hy] at this
      by_cases hi0 : i = 0
      · subst hi0; simpa [Addr.add] using this
      · simpa [Addr.add, hi0, Nat.add_assoc] using this

end Go.Proofs.YtmhbdmmpmagbkaaGreat.walks
