/-
  Heads in memory: a block that holds one; what is read and stored of it. Chapter 4 as the specification has it: ObjectAt. Chapter 4 as the specification has it: ObjectAt, at every row and place. The functions of chapter 1 once more, each by one contract for every argument. A heap as it lies: nine fields, four of them lists of numbers.
-/
import Derived.Test.YtblbpejmpclbianGreatM1
import Derived.Test.YtblbpejmpclbianGreatM3
import Derived.Deep.RegionLaw
import Derived.Test.YtblbpejmpclbianGreatM2
namespace Go.Proofs.YtblbpejmpclbianGreat.heads
open Go.RowKit

/-- The block b holds such a head. -/
def HeadAt (w : World) (b : Nat) (s f c h : Int) (p m : Bool) : Prop := w.heap[b]? = some (.cells #[.int .i64 s, .int .i64 f, .int .i64 c, .int .i64 h, .bool p, .bool m] 60 (0, 0))

theorem headAt_cells {w : World} {b : Nat} {s f c h : Int} {p m : Bool} (hh : HeadAt w b s f c h p m) :
    w.cell? ⟨b, 0, none⟩ = some (.int .i64 s) ∧ w.cell? ⟨b, 1, none⟩ = some (.int .i64 f) ∧ w.cell? ⟨b, 2, none⟩ = some (.int .i64 c) ∧ w.cell? ⟨b, 3, none⟩ = some (.int .i64 h) ∧ w.cell? ⟨b, 4, none⟩ = some (.bool p) ∧ w.cell? ⟨b, 5, none⟩ = some (.bool m) ∧ ∀ k, w.frozen? ⟨b, k, none⟩ = false := by
  unfold HeadAt at hh
  refine ⟨?_, ?_, ?_, ?_, ?_, ?_, fun k => ?_⟩
  all_goals simp [World.cell?, World.frozen?, hh]

theorem cells_setCell {w : World} {b : Nat} {c : Array Value} {t : TypeId} (h : w.heap[b]? = some (.cells c t (0, 0))) (k : Nat) (u : Value) :
    (w.setCell ⟨b, k, none⟩ u).heap[b]? = some (.cells (c.setIfInBounds k u) t (0, 0)) := by
  have hlt := lt_of_block h
  have h' : w.heap[b] = .cells c t (0, 0) := by simpa [Array.getElem?_eq_getElem hlt] using h
  show (w.heap.modify b _)[b]? = _
  rw [Array.getElem?_eq_getElem (by simpa using hlt), Array.getElem_modify_self, h']
  rfl
theorem headAt_alloc {w : World} {b : Nat} {s f c h : Int} {p m : Bool} (hh : HeadAt w b s f c h p m) (o : Obj) : HeadAt (w.alloc o) b s f c h p m := (Below.heap_alloc w o b (lt_of_block hh)).trans hh
theorem headAt_new (w : World) (s f c h : Int) (p m : Bool) : HeadAt (w.alloc (hb s f c h p m)) w.heap.size s f c h p m := heap_alloc_new w _
theorem headAt_other {w : World} {b : Nat} {s f c h : Int} {p m : Bool} (hh : HeadAt w b s f c h p m) {q : Addr} (hne : b ≠ q.block) (u : Value) : HeadAt (w.setCell q u) b s f c h p m := (Below.heap_setCell w q u b hne).trans hh
theorem headAt_set0 {w : World} {b : Nat} {s f c h : Int} {p m : Bool} (hh : HeadAt w b s f c h p m) (x : Int) : HeadAt (w.setCell ⟨b, 0, none⟩ (.int .i64 x)) b x f c h p m := (cells_setCell hh 0 _).trans rfl
theorem headAt_set1 {w : World} {b : Nat} {s f c h : Int} {p m : Bool} (hh : HeadAt w b s f c h p m) (x : Int) : HeadAt (w.setCell ⟨b, 1, none⟩ (.int .i64 x)) b s x c h p m := (cells_setCell hh 1 _).trans rfl
theorem headAt_set2 {w : World} {b : Nat} {s f c h : Int} {p m : Bool} (hh : HeadAt w b s f c h p m) (x : Int) : HeadAt (w.setCell ⟨b, 2, none⟩ (.int .i64 x)) b s f x h p m := (cells_setCell hh 2 _).trans rfl
theorem headAt_set3 {w : World} {b : Nat} {s f c h : Int} {p m : Bool} (hh : HeadAt w b s f c h p m) (x : Int) : HeadAt (w.setCell ⟨b, 3, none⟩ (.int .i64 x)) b s f c x p m := (cells_setCell hh 3 _).trans rfl
theorem headAt_set4 {w : World} {b : Nat} {s f c h : Int} {p m : Bool} (hh : HeadAt w b s f c h p m) (x : Bool) : HeadAt (w.setCell ⟨b, 4, none⟩ (.bool x)) b s f c h x m := (cells_setCell hh 4 _).trans rfl
theorem headAt_set5 {w : World} {b : Nat} {s f c h : Int} {p m : Bool} (hh : HeadAt w b s f c h p m) (x : Bool) : HeadAt (w.setCell ⟨b, 5, none⟩ (.bool x)) b s f c h p x := (cells_setCell hh 5 _).trans rfl

theorem res_head {fn : Func} {tmps : Array Value} {X : World} {b : Nat} {s f c h : Int} {p m : Bool} (hf : fn.results = #[.cell 2 60]) (h2 : tmps[2]? = some (.pointer (some ⟨b, 0, none⟩))) (hX : HeadAt X b s f c h p m) :
    (results fn tmps).run Tryz.prog X = .ok (hv s f c h p m) X := by
  obtain ⟨k0, k1, k2, k3, k4, k5, _⟩ := headAt_cells hX
  clear hX
  simp [results, hf, h2, go_sem, k0, k1, k2, k3, k4, k5]
theorem res_head_at {fn : Func} {tmps : Array Value} {X : World} {j b : Nat} {s f c h : Int} {p m : Bool} (hf : fn.results = #[.cell j 60]) (h2 : tmps[j]? = some (.pointer (some ⟨b, 0, none⟩))) (hX : HeadAt X b s f c h p m) :
    (results fn tmps).run Tryz.prog X = .ok (hv s f c h p m) X := by
  obtain ⟨k0, k1, k2, k3, k4, k5, _⟩ := headAt_cells hX
  clear hX
  simp [results, hf, h2, go_sem, k0, k1, k2, k3, k4, k5]
theorem res_head_two {fn : Func} {tmps : Array Value} {X : World} {j i k b : Nat} {s f c h : Int} {p m : Bool} {v u : Value} (hf : fn.results = #[.cell j 60, .tmp i, .tmp k]) (h2 : tmps[j]? = some (.pointer (some ⟨b, 0, none⟩))) (hi : tmps[i]? = some v) (hk : tmps[k]? = some u) (hX : HeadAt X b s f c h p m) :
    (results fn tmps).run Tryz.prog X = .ok (.tuple #[hv s f c h p m, v, u]) X := by
  obtain ⟨k0, k1, k2, k3, k4, k5, _⟩ := headAt_cells hX
  clear hX
  simp [results, hf, h2, hi, hk, go_sem, k0, k1, k2, k3, k4, k5]
theorem headAt_below {w w' : World} {b : Nat} {s f c h : Int} {p m : Bool} (T : HeadAt w b s f c h p m) (hb : Below w.heap.size w w') : HeadAt w' b s f c h p m := (hb.block b (lt_of_block T)).trans T
theorem six_set {X : World} {b : Nat} {s' f' c' h' : Int} {p' m' : Bool} (T : HeadAt X b s' f' c' h' p' m') (s f c h : Int) (p m : Bool) :
    HeadAt ((((((X.setCell ⟨b, 0, none⟩ (.int .i64 s)).setCell ⟨b, 1, none⟩ (.int .i64 f)).setCell ⟨b, 2, none⟩ (.int .i64 c)).setCell ⟨b, 3, none⟩ (.int .i64 h)).setCell ⟨b, 4, none⟩ (.bool p)).setCell ⟨b, 5, none⟩ (.bool m)) b s f c h p m :=
  headAt_set5 (headAt_set4 (headAt_set3 (headAt_set2 (headAt_set1 (headAt_set0 T _) _) _) _) _) _
theorem six_below {n : Nat} {w X : World} {b : Nat} (hB : Below n w X) (hb : n ≤ b) (s f c h : Int) (p m : Bool) : Below n w ((((((X.setCell ⟨b, 0, none⟩ (.int .i64 s)).setCell ⟨b, 1, none⟩ (.int .i64 f)).setCell ⟨b, 2, none⟩ (.int .i64 c)).setCell ⟨b, 3, none⟩ (.int .i64 h)).setCell ⟨b, 4, none⟩ (.bool p)).setCell ⟨b, 5, none⟩ (.bool m)) :=
  (((((hB.setCell (p := ⟨b, 0, none⟩) hb _).setCell (p := ⟨b, 1, none⟩) hb _).setCell (p := ⟨b, 2, none⟩) hb _).setCell (p := ⟨b, 3, none⟩) hb _).setCell (p := ⟨b, 4, none⟩) hb _).setCell (p := ⟨b, 5, none⟩) hb _
end Go.Proofs.YtblbpejmpclbianGreat.heads
namespace Go.Proofs.YtblbpejmpclbianGreat.walks
open Go.RowKit rows heads words
set_option maxRecDepth 100000

/-- A head as a word tells it. -/
abbrev hw (n : Int) : Value := hv (uS n) (uF n) (uC n) (uH n) (uP n) (uM n)
theorem hw_none : hw (-1) = hv 0 0 0 0 false false := by
  have e : ok (-1) = false := by simp [ok]
  simp only [hw, uS, uF, uC, uH, uP, uM, e, Bool.false_eq_true, if_false]

theorem l4Head_any {w : World} {v : Value} {xs : List Int} (h : IntsAt w v xs) (k : Nat) (hk : k < xs.length) :
    Calls Tryz.prog 46 #[v, .int .i64 k] w fun e w' => e = .returned (hw (xs.getD k 0)) ∧ Below w.heap.size w w' := by
  obtain ⟨a, cap, rfl, hlc, hcm, _, hc⟩ := h
  obtain ⟨b, off, rfl, hb, hcc⟩ := hc (by omega)
  have c0 := hcc k hk
  clear hc hcc
  generalize xs.getD k 0 = x at *
  unfold maxLen at hcm
  have U := sUnpacked_any x
  unfold hw
  generalize uS x = s at *
  generalize uF x = f at *
  generalize uC x = c at *
  generalize uH x = g at *
  generalize uP x = p at *
  generalize uM x = m at *
  go_enter Tryz.func46, Tryz.ntmps46
  go_wp2_with fail
  refine (U _).mono ?_
  rintro e w1 ⟨rfl, B1⟩
  have B0 : Below w.heap.size w w1 := ((Below.refl _ w).alloc (Nat.le_refl _) _).trans (B1.mono (by simp))
  have sz1 := B1.size
  have T1 : HeadAt w1 w.heap.size 0 0 0 0 false false := (B1.block w.heap.size (by simp)).trans (heap_alloc_new w _)
  obtain ⟨k0, k1, k2, k3, k4, k5, fz⟩ := headAt_cells T1
  have hlt := lt_of_block T1
  simp only [World.size_alloc] at sz1
  clear B1 U
  go_wp2
  exact bodyPost_ret (res_head_at rfl rfl (headAt_alloc (six_set T1 s f c g p m) _)) rfl ⟨rfl, (six_below B0 (Nat.le_refl _) s f c g p m).alloc (by simp; omega) _⟩

theorem l4Count_any (s f c h : Int) (p m : Bool) (w : World) :
    Calls Tryz.prog 62 #[hv s f c h p m] w fun e w' => e = .returned (.int .i64 (if f = 7 then 1 else if f = 6 then 0 else s)) ∧ w' = w.alloc (hb s f c h p m) := by
  by_cases h7 : f = 7
  · subst h7
    go_enter Tryz.func62, Tryz.ntmps62
    go_wp2
    go_ret
    exact ⟨rfl, rfl⟩
  · have h7' : (f == 7) = false := by simpa using h7
    rw [if_neg h7]
    by_cases h6 : f = 6
    · subst h6
      go_enter Tryz.func62, Tryz.ntmps62
      go_wp2
      go_ret
      exact ⟨rfl, rfl⟩
    · have h6' : (f == 6) = false := by simpa using h6
      rw [if_neg h6]
      go_enter Tryz.func62, Tryz.ntmps62
      go_wp2
      go_ret
      exact ⟨rfl, rfl⟩

theorem own_nothing' {w : World} {base g : Nat} (hg : g = w.heap.size) (hb : base ≤ g) : Own (w.alloc (.cells #[] 2)) base (.slice (some ⟨g, 0, none⟩) 0 0) [] := by
  subst hg; exact own_nothing w base hb
theorem field_format (s f c h : Int) (p m : Bool) (w : World) : (Instr.field 60 (hv s f c h p m) 1).run Tryz.prog w = .ok (.int .i64 f) w := rfl

/-- A row stays where a cell below it is written. -/
theorem own_other {w : World} {base : Nat} {v : Value} {xs : List Int} (h : Own w base v xs) {q : Addr} (hq : q.block < base) (u : Value) : Own (w.setCell q u) base v xs := by
  obtain ⟨h0, ⟨h1, h2⟩ | ⟨g, cap, cur, h1, hg, hh, hle, hm, hs, ht⟩⟩ := h
  · exact ⟨h0, .inl ⟨h1, h2⟩⟩
  · exact ⟨h0, .inr ⟨g, cap, cur, h1, hg, (Below.heap_setCell w q u g (by omega)).trans hh, hle, hm, hs, ht⟩⟩
theorem own_six {X : World} {base b : Nat} {v : Value} {xs : List Int} (hO : Own X base v xs) (hb : b < base) (s f c h : Int) (p m : Bool) :
    Own ((((((X.setCell ⟨b, 0, none⟩ (.int .i64 s)).setCell ⟨b, 1, none⟩ (.int .i64 f)).setCell ⟨b, 2, none⟩ (.int .i64 c)).setCell ⟨b, 3, none⟩ (.int .i64 h)).setCell ⟨b, 4, none⟩ (.bool p)).setCell ⟨b, 5, none⟩ (.bool m)) base v xs :=
  own_other (own_other (own_other (own_other (own_other (own_other hO hb _) hb _) hb _) hb _) hb _) hb _

/-- An empty row that was just made, wherever it lies. -/
theorem own_empty {W : World} {base g : Nat} (hg : W.heap[g]? = some (.cells #[] 2 (0, 0))) (hb : base ≤ g) : W.ownsRow base 2 1 (.slice (some ⟨g, 0, none⟩) 0 0) 0 [] :=
  ⟨rfl, .inr ⟨g, 0, #[], rfl, hb, hg, Nat.le_refl _, by decide, rfl, rfl⟩⟩

theorem empty_first (X : World) (o : Obj) : ((X.alloc (.cells #[] 2)).alloc o).drew.heap[X.heap.size]? = some (.cells #[] 2 (0, 0)) :=
  (Below.heap_alloc _ o _ (by simp)).trans (heap_alloc_new X _)
theorem empty_last (X : World) (o : Obj) : ((X.alloc o).alloc (.cells #[] 2)).drew.heap[X.heap.size + 1]? = some (.cells #[] 2 (0, 0)) := by
  have := heap_alloc_new (X.alloc o) (.cells #[] 2 (0, 0))
  rw [World.size_alloc] at this
  exact this

/-- 'append([]int64{}, ..)' as one step of a region that leaves its order open. -/
theorem step_copied {X W : World} {ops : Array Oper} {o : Oper} {a : Act} {K : Act → World → Prop} {Q : Exit → Act → World → Prop} {E : Prop} (hgd : o.guard = none) (s x : Operand)
    (ho : o.op = .call { callee := .builtin .append, args := #[s, x], argTypes := #[22, 22] }) (base g : Nat) (hs : a.eval s = .slice (some ⟨g, 0, none⟩) 0 0) (hg : W.heap[g]? = some (.cells #[] 2 (0, 0))) (hb : base ≤ X.heap.size) (hX : Below X.heap.size X W) (hXg : X.heap.size ≤ g)
    (ad : Addr) (m c : Nat) (ys : List Int) (hx : a.eval x = .slice (some ad) m c) (hm : ys.length = m) (hnews : ∀ W, Below X.heap.size X W → ∀ j u, (cellsOf ys)[j]? = some u → W.cell? (ad.add j) = some u) (hl : m ≤ 1048576)
    (h : ∀ v' w', Own w' base v' ys → Below X.heap.size X w' → K (a.put o.dst v') w') :
    if Region.wanted o (yielded ops a.tmps) = true then Oper.wp Tryz.prog o a W K Q else E := by
  obtain ⟨i0, hi, hz0, hz1, hz2⟩ := info_parts info
  have hw : Region.wanted o (yielded ops a.tmps) = true := by simp [Region.wanted, hgd]
  rw [if_pos hw]
  subst hm
  refine wp_append_own _ s x 22 ho base 2 i0 (.int .i64 0) 1 8 Tryz.underlying22 hi hz0 hz1 hz2 rfl (by decide) _ 0 [] hs (own_empty hg (Nat.le_trans hb hXg)) ad ys.length c (cellsOf ys) hx (by simp) (hnews W hX) (ints_oneCell _ _) (by unfold maxLen; omega) (by omega) (Nat.le_trans hb hX.size) ?_
  intro v' w' hown hgrow _
  refine h v' w' ?_ (hX.grown hgrow hX.size (fun k e => by cases e; exact hXg))
  rw [Nat.zero_add, List.nil_append] at hown
  exact hown

/-- Where the piece from j on begins, and what may be read there. -/
theorem piece_from {X : World} {b off cap : Nat} {xs : List Int} {j n : Nat} (hc : ∀ i, i < xs.length → X.cell? ⟨b, off + i, none⟩ = some (.int .i64 (xs.getD i 0))) (hj : j + n ≤ xs.length) (hcap : xs.length ≤ cap) (hb : b < X.heap.size) :
    ∃ ad : Addr, (if cap = j then some (⟨b, off, none⟩ : Addr) else some ⟨b, off + j, none⟩) = some ad ∧ ∀ W, Below X.heap.size X W → ∀ i u, (cellsOf ((xs.drop j).take n))[i]? = some u → W.cell? (ad.add i) = some u := by
  by_cases h0 : cap = j
  · obtain rfl : n = 0 := by omega
    exact ⟨_, by rw [if_pos h0], fun W _ i u h => by simp at h⟩
  · refine ⟨⟨b, off + j, none⟩, ?_, fun W hW i u hi => ?_⟩
    · rw [if_neg h0]
    · have hlt : i < n := by
        have := (List.getElem?_eq_some_iff.1 hi).1
        simp at this
        omega
      have := (hW.cell (p := ⟨b, off + (j + i), none⟩) hb).trans (hc (j + i) (by omega))
      simp [cellsOf, hlt] at hi
      obtain ⟨y, hy, rfl⟩ := hi
      rw [List.getD_eq_getElem?_getD, hy] at this
      by_cases hi0 : i = 0
      · subst hi0; simpa [Addr.add] using this
      · simpa [Addr.add, hi0, Nat.add_assoc] using this

end Go.Proofs.YtblbpejmpclbianGreat.walks
namespace Go.Proofs.YtblbpejmpclbianGreat.walks
open Go.RowKit rows heads words
set_option maxRecDepth 100000

theorem chunk_obj {xs : List Int} {k : Nat} (h : chunk xs k ≠ 0) (h6 : ¬ uF (xs.getD k 0) = 6) : chunk xs k = sz (uS (xs.getD k 0)) ∧ (k : Int) + sz (uS (xs.getD k 0)) ≤ xs.length := by
  unfold chunk at h ⊢
  split at h
  · rename_i h1
    rw [if_pos h1]
    rw [if_neg h6]
    split at h
    · rename_i h2
      rw [if_pos h2]
      exact ⟨rfl, h2.1⟩
    · exact absurd rfl h
  · exact absurd rfl h

end Go.Proofs.YtblbpejmpclbianGreat.walks
namespace Go.Proofs.YtblbpejmpclbianGreat.words
open Go.RowKit

def iv (n : Int) : Int := if isI n then n / 4 else 0
def av (n : Int) : Int := if isA n then n / 4 - 1 else 0
def oi (n : Int) : Int := if -100000 ≤ n ∧ n ≤ 100000 then n * 4 + 1 else 2
def oa (a : Int) : Int := if 0 ≤ a ∧ a ≤ 999 then (a + 1) * 4 else 2

theorem oi_bd (n : Int) : -9223372036854775808 ≤ oi n ∧ oi n ≤ 9223372036854775807 := by
  unfold oi; split <;> omega
theorem oa_bd (n : Int) : -9223372036854775808 ≤ oa n ∧ oa n ≤ 9223372036854775807 := by
  unfold oa; split <;> omega

theorem intOf_any (n : Int) (w : World) (b1 : -9223372036854775808 ≤ n) (b2 : n ≤ 9223372036854775807) :
    Calls Tryz.prog 101 #[.int .i64 n] w fun e w' => e = .returned (.tuple #[.int .i64 (iv n), .bool (isI n)]) ∧ w' = w := by
  cases hi : isI n
  · have e : iv n = 0 := by simp [iv, hi]
    rw [e]; exact intOf_no n w b1 b2 hi
  · have e : iv n = n / 4 := by simp [iv, hi]
    rw [e]; exact intOf_yes n w b1 b2 hi
theorem addrOf_any (n : Int) (w : World) (b1 : -9223372036854775808 ≤ n) (b2 : n ≤ 9223372036854775807) :
    Calls Tryz.prog 102 #[.int .i64 n] w fun e w' => e = .returned (.tuple #[.int .i64 (av n), .bool (isA n)]) ∧ w' = w := by
  cases hi : isA n
  · have e : av n = 0 := by simp [av, hi]
    rw [e]; exact addrOf_no n w b1 b2 hi
  · have e : av n = n / 4 - 1 := by simp [av, hi]
    rw [e]; exact addrOf_yes n w b1 b2 hi
theorem sIntOf_any (n : Int) (w : World) :
    Calls Tryz.prog 75 #[.int .i64 n] w fun e w' => e = .returned (.tuple #[.int .i64 (iv n), .bool (isI n)]) ∧ w' = w := by
  cases hi : isI n
  · have e : iv n = 0 := by simp [iv, hi]
    rw [e]; exact sIntOf_no n w hi
  · have e : iv n = n / 4 := by simp [iv, hi]
    rw [e]; exact sIntOf_yes n w hi
theorem sAddrOf_any (n : Int) (w : World) :
    Calls Tryz.prog 51 #[.int .i64 n] w fun e w' => e = .returned (.tuple #[.int .i64 (av n), .bool (isA n)]) ∧ w' = w := by
  cases hi : isA n
  · have e : av n = 0 := by simp [av, hi]
    rw [e]; exact sAddrOf_no n w hi
  · have e : av n = n / 4 - 1 := by simp [av, hi]
    rw [e]; exact sAddrOf_yes n w hi
theorem oi_iv {n : Int} (h : isI n = true) : oi (iv n) = n := by
  have h1 := isI_true h
  rw [show iv n = n / 4 from if_pos h, show oi (n / 4) = n / 4 * 4 + 1 from if_pos (by omega)]
  omega
theorem oa_av {n : Int} (h : isA n = true) : oa (av n) = n := by
  have h1 := isA_true h
  rw [show av n = n / 4 - 1 from if_pos h, show oa (n / 4 - 1) = (n / 4 - 1 + 1) * 4 from if_pos (by omega)]
  omega
theorem isI_oi_yes {n : Int} (h1 : -100000 ≤ n) (h2 : n ≤ 100000) : isI (oi n) = true ∧ iv (oi n) = n := by
  have e : oi n = n * 4 + 1 := if_pos ⟨h1, h2⟩
  have hi : isI (n * 4 + 1) = true := by simp [isI]; omega
  rw [e]
  exact ⟨hi, by rw [show iv (n * 4 + 1) = (n * 4 + 1) / 4 from if_pos hi]; omega⟩
theorem isI_oi_no {n : Int} (h : ¬ (-100000 ≤ n ∧ n ≤ 100000)) : isI (oi n) = false := by
  rw [show oi n = 2 from if_neg h]; rfl
theorem isA_oa_yes {n : Int} (h1 : 0 ≤ n) (h2 : n ≤ 999) : isA (oa n) = true ∧ av (oa n) = n := by
  have e : oa n = (n + 1) * 4 := if_pos ⟨h1, h2⟩
  have hi : isA ((n + 1) * 4) = true := by simp [isA]; omega
  rw [e]
  exact ⟨hi, by rw [show av ((n + 1) * 4) = (n + 1) * 4 / 4 - 1 from if_pos hi]; omega⟩
theorem isA_oa_no {n : Int} (h : ¬ (0 ≤ n ∧ n ≤ 999)) : isA (oa n) = false := by
  rw [show oa n = 2 from if_neg h]; rfl
end Go.Proofs.YtblbpejmpclbianGreat.words
namespace Go.Proofs.YtblbpejmpclbianGreat.hp
open Go.RowKit rows heads words walks
set_option maxRecDepth 100000

/-- A heap. -/
structure Hp where
  half : Int
  old : Int
  row : List Int
  side : Int
  top : Int
  roots : List Int
  mourned : List Int
  seen : List Int
  seed : Int
abbrev hpv (H : Hp) (vr vo vm vs : Value) : Value := .agg #[.int .i64 H.half, .int .i64 H.old, vr, .int .i64 H.side, .int .i64 H.top, vo, vm, vs, .int .i64 H.seed]
abbrev hpb (H : Hp) (vr vo vm vs : Value) : Obj := .cells #[.int .i64 H.half, .int .i64 H.old, vr, .int .i64 H.side, .int .i64 H.top, vo, vm, vs, .int .i64 H.seed] 27
/-- A block of nine cells. -/
def Nine (w : World) (b : Nat) (t : TypeId) (c0 c1 c2 c3 c4 c5 c6 c7 c8 : Value) : Prop := w.heap[b]? = some (.cells #[c0, c1, c2, c3, c4, c5, c6, c7, c8] t (0, 0))
theorem nine_cells {w : World} {b : Nat} {t : TypeId} {c0 c1 c2 c3 c4 c5 c6 c7 c8 : Value} (h : Nine w b t c0 c1 c2 c3 c4 c5 c6 c7 c8) :
    (w.cell? ⟨b, 0, none⟩ = some c0 ∧ w.cell? ⟨b, 1, none⟩ = some c1 ∧ w.cell? ⟨b, 2, none⟩ = some c2 ∧ w.cell? ⟨b, 3, none⟩ = some c3 ∧ w.cell? ⟨b, 4, none⟩ = some c4) ∧ (w.cell? ⟨b, 5, none⟩ = some c5 ∧ w.cell? ⟨b, 6, none⟩ = some c6 ∧ w.cell? ⟨b, 7, none⟩ = some c7 ∧ w.cell? ⟨b, 8, none⟩ = some c8) ∧ ∀ k, w.frozen? ⟨b, k, none⟩ = false := by
  unfold Nine at h
  refine ⟨⟨?_, ?_, ?_, ?_, ?_⟩, ⟨?_, ?_, ?_, ?_⟩, fun k => ?_⟩
  all_goals simp [World.cell?, World.frozen?, h]
theorem nine_below {w w' : World} {b : Nat} {t : TypeId} {c0 c1 c2 c3 c4 c5 c6 c7 c8 : Value} (h : Nine w b t c0 c1 c2 c3 c4 c5 c6 c7 c8) (hb : Below w.heap.size w w') : Nine w' b t c0 c1 c2 c3 c4 c5 c6 c7 c8 := (hb.block b (lt_of_block h)).trans h
theorem nine_new (w : World) (H : Hp) (vr vo vm vs : Value) : Nine (w.alloc (hpb H vr vo vm vs)) w.heap.size 27 (.int .i64 H.half) (.int .i64 H.old) vr (.int .i64 H.side) (.int .i64 H.top) vo vm vs (.int .i64 H.seed) := heap_alloc_new _ _
/-- The heap may be read. -/
def HpAt (w : World) (vr vo vm vs : Value) (H : Hp) : Prop := IntsAt w vr H.row ∧ IntsAt w vo H.roots ∧ IntsAt w vm H.mourned ∧ IntsAt w vs H.seen
theorem hpAt_below {w w' : World} {vr vo vm vs : Value} {H : Hp} (h : HpAt w vr vo vm vs H) (hb : Below w.heap.size w w') : HpAt w' vr vo vm vs H := ⟨intsAt_below h.1 hb, intsAt_below h.2.1 hb, intsAt_below h.2.2.1 hb, intsAt_below h.2.2.2 hb⟩
theorem hpAt_slices {w : World} {vr vo vm vs : Value} {H : Hp} (h : HpAt w vr vo vm vs H) : ∃ a1 c1 a2 c2 a3 c3 a4 c4, vr = .slice a1 H.row.length c1 ∧ vo = .slice a2 H.roots.length c2 ∧ vm = .slice a3 H.mourned.length c3 ∧ vs = .slice a4 H.seen.length c4 := by
  obtain ⟨⟨a1, c1, e1, _⟩, ⟨a2, c2, e2, _⟩, ⟨a3, c3, e3, _⟩, ⟨a4, c4, e4, _⟩⟩ := h
  exact ⟨a1, c1, a2, c2, a3, c3, a4, c4, e1, e2, e3, e4⟩
/-- How many numbers it holds. -/
def hpSize (H : Hp) : Nat := H.row.length + H.roots.length + H.mourned.length + H.seen.length
/-- Places of the row. -/
def Plc (H : Hp) (ps : List Int) : Prop := ∀ p ∈ ps, ∃ j : Nat, p = j ∧ j < H.row.length
end Go.Proofs.YtblbpejmpclbianGreat.hp
