/-
  Chapter 4 as the specification has it: ObjectAt.
  Made from the template ObjS.
-/
import Derived.Test.YtdogibjgogcdkabWalkS2
import Derived.Test.YtdogibjgogcdkabHeadMem
import Derived.Deep.RegionLaw
namespace Go.Proofs.Ytdogibjgogcdkab.walks
open Go.RowKit rows heads words
set_option maxRecDepth 100000

/-- A head as a word tells it. -/
abbrev hw (n : Int) : Value := hv (uS n) (uF n) (uC n) (uH n) (uP n) (uM n)
theorem hw_none : hw (-1) = hv 0 0 0 0 false false := by
  have e : ok (-1) = false := by simp [ok]
  simp only [hw, uS, uF, uC, uH, uP, uM, e, Bool.false_eq_true, if_false]

theorem l4Head_any {w : World} {v : Value} {xs : List Int} (h : IntsAt w v xs) (k : Nat) (hk : k < xs.length) :
    Calls Try.prog 77 #[v, .int .i64 k] w fun e w' => e = .returned (hw (xs.getD k 0)) ∧ Below w.heap.size w w' := by
  obtain ⟨a, cap, rfl, hlc, hcm, _, hc⟩ := h
  obtain ⟨b, off, rfl, hb, hcc⟩ := hc (by omega)
  have c0 := hcc k hk
  clear hc hcc
  generalize xs.getD k 0 = x at *
  unfold maxLen at hcm
  have U := sUnpacked_any x
  unfold hw
  generalize uS x = s at *
  generalize uF x = f at *
  generalize uC x = c at *
  generalize uH x = g at *
  generalize uP x = p at *
  generalize uM x = m at *
  go_enter Try.func77, Try.ntmps77
  go_wp2_with fail
  refine (U _).mono ?_
  rintro e w1 ⟨rfl, B1⟩
  have B0 : Below w.heap.size w w1 := ((Below.refl _ w).alloc (Nat.le_refl _) _).trans (B1.mono (by simp))
  have sz1 := B1.size
  have T1 : HeadAt w1 w.heap.size 0 0 0 0 false false := (B1.block w.heap.size (by simp)).trans (heap_alloc_new w _)
  obtain ⟨k0, k1, k2, k3, k4, k5, fz⟩ := headAt_cells T1
  have hlt := lt_of_block T1
  simp only [World.size_alloc] at sz1
  clear B1 U
  go_wp2
  exact bodyPost_ret (res_head_at rfl rfl (headAt_alloc (six_set T1 s f c g p m) _)) rfl ⟨rfl, (six_below B0 (Nat.le_refl _) s f c g p m).alloc (by simp; omega) _⟩

theorem l4Count_any (s f c h : Int) (p m : Bool) (w : World) :
    Calls Try.prog 78 #[hv s f c h p m] w fun e w' => e = .returned (.int .i64 (if f = 7 then 1 else if f = 6 then 0 else s)) ∧ w' = w.alloc (hb s f c h p m) := by
  by_cases h7 : f = 7
  · subst h7
    go_enter Try.func78, Try.ntmps78
    go_wp2
    go_ret
    exact ⟨rfl, rfl⟩
  · have h7' : (f == 7) = false := by simpa using h7
    rw [if_neg h7]
    by_cases h6 : f = 6
    · subst h6
      go_enter Try.func78, Try.ntmps78
      go_wp2
      go_ret
      exact ⟨rfl, rfl⟩
    · have h6' : (f == 6) = false := by simpa using h6
      rw [if_neg h6]
      go_enter Try.func78, Try.ntmps78
      go_wp2
      go_ret
      exact ⟨rfl, rfl⟩

theorem own_nothing' {w : World} {base g : Nat} (hg : g = w.heap.size) (hb : base ≤ g) : Own (w.alloc (.cells #[] 2)) base (.slice (some ⟨g, 0, none⟩) 0 0) [] := by
  subst hg; exact own_nothing w base hb
theorem field_format (s f c h : Int) (p m : Bool) (w : World) : (Instr.field 26 (hv s f c h p m) 1).run Try.prog w = .ok (.int .i64 f) w := rfl

theorem objAt_none {w : World} {v : Value} {xs : List Int} (h : IntsAt w v xs) (hl : xs.length ≤ 1048576) (i : Int) (e0 : chunkAt xs i = 0) :
    Calls Try.prog 15 #[v, .int .i64 i] w fun e w' => ∃ v', e = .returned (.tuple #[hv 0 0 0 0 false false, v', .bool false]) ∧ Own w' w.heap.size v' [] ∧ Below w.heap.size w w' := by
  have B := (Below.refl w.heap.size w).alloc (Nat.le_refl _) (hb 0 0 0 0 false false)
  go_enter Try.func15, Try.ntmps15
  go_wp2_with fail
  refine (sChunkAt_any (intsAt_below h B) hl i).mono ?_
  rintro e w1 ⟨rfl, B1⟩
  rw [e0]
  have sz1 := B1.size
  simp only [World.size_alloc] at sz1
  have B0 := B.trans (B1.mono (by simp))
  have T1 : HeadAt w1 w.heap.size 0 0 0 0 false false := (B1.block w.heap.size (by simp)).trans (heap_alloc_new w _)
  obtain ⟨k0, k1, k2, k3, k4, k5, fz⟩ := headAt_cells T1
  have hlt := lt_of_block T1
  clear B1 B
  go_wp2
  exact bodyPost_ret (res_head_two rfl rfl rfl rfl (headAt_alloc (six_set T1 0 0 0 0 false false) _)) rfl ⟨_, rfl, own_nothing' (by simp) (by omega), (six_below B0 (Nat.le_refl _) 0 0 0 0 false false).alloc (by simp; omega) _⟩

theorem objAt_free {w : World} {v : Value} {xs : List Int} (h : IntsAt w v xs) (hl : xs.length ≤ 1048576) (k : Nat) (hk : k < xs.length) (e0 : ¬ chunkAt xs k = 0) (e6 : uF (xs.getD k 0) = 6) :
    Calls Try.prog 15 #[v, .int .i64 k] w fun e w' => ∃ v', e = .returned (.tuple #[hv 0 0 0 0 false false, v', .bool false]) ∧ Own w' w.heap.size v' [] ∧ Below w.heap.size w w' := by
  have B := (Below.refl w.heap.size w).alloc (Nat.le_refl _) (hb 0 0 0 0 false false)
  go_enter Try.func15, Try.ntmps15
  go_wp2_with fail
  refine (sChunkAt_any (intsAt_below h B) hl k).mono ?_
  rintro e w1 ⟨rfl, B1⟩
  have e0' : (chunkAt xs k == 0) = false := by simpa using e0
  have B0 := B.trans (B1.mono (by simp))
  go_wp2_with fail
  refine (l4Head_any (intsAt_below h B0) k hk).mono ?_
  rintro e w2 ⟨rfl, B2⟩
  unfold hw
  rw [e6]
  have sz2 := B2.size
  have sz1 := B1.size
  simp only [World.size_alloc] at sz1
  have T1 : HeadAt w1 w.heap.size 0 0 0 0 false false := (B1.block w.heap.size (by simp)).trans (heap_alloc_new w _)
  have T2 := headAt_below T1 B2
  obtain ⟨k0, k1, k2, k3, k4, k5, fz⟩ := headAt_cells T2
  have hlt := lt_of_block T2
  have B3 := B0.trans (B2.mono B0.size)
  clear B1 B2 B T1 B0
  generalize chunkAt xs k = c at *
  generalize uS _ = s
  generalize uC _ = c1
  generalize uH _ = g
  generalize uP _ = p
  generalize uM _ = m
  have FF := field_format s 6 c1 g p m
  go_wp2
  exact bodyPost_ret (res_head_two rfl rfl rfl rfl (headAt_alloc (six_set T2 0 0 0 0 false false) _)) rfl ⟨_, rfl, own_nothing' (by simp) (by omega), (six_below B3 (Nat.le_refl _) 0 0 0 0 false false).alloc (by simp; omega) _⟩

/-- A row stays where a cell below it is written. -/
theorem own_other {w : World} {base : Nat} {v : Value} {xs : List Int} (h : Own w base v xs) {q : Addr} (hq : q.block < base) (u : Value) : Own (w.setCell q u) base v xs := by
  obtain ⟨h0, ⟨h1, h2⟩ | ⟨g, cap, cur, h1, hg, hh, hle, hm, hs, ht⟩⟩ := h
  · exact ⟨h0, .inl ⟨h1, h2⟩⟩
  · exact ⟨h0, .inr ⟨g, cap, cur, h1, hg, (Below.heap_setCell w q u g (by omega)).trans hh, hle, hm, hs, ht⟩⟩
theorem own_six {X : World} {base b : Nat} {v : Value} {xs : List Int} (hO : Own X base v xs) (hb : b < base) (s f c h : Int) (p m : Bool) :
    Own ((((((X.setCell ⟨b, 0, none⟩ (.int .i64 s)).setCell ⟨b, 1, none⟩ (.int .i64 f)).setCell ⟨b, 2, none⟩ (.int .i64 c)).setCell ⟨b, 3, none⟩ (.int .i64 h)).setCell ⟨b, 4, none⟩ (.bool p)).setCell ⟨b, 5, none⟩ (.bool m)) base v xs :=
  own_other (own_other (own_other (own_other (own_other (own_other hO hb _) hb _) hb _) hb _) hb _) hb _

/-- An empty row that was just made, wherever it lies. -/
theorem own_empty {W : World} {base g : Nat} (hg : W.heap[g]? = some (.cells #[] 2 (0, 0))) (hb : base ≤ g) : W.ownsRow base 2 1 (.slice (some ⟨g, 0, none⟩) 0 0) 0 [] :=
  ⟨rfl, .inr ⟨g, 0, #[], rfl, hb, hg, Nat.le_refl _, by decide, rfl, rfl⟩⟩

theorem empty_first (X : World) (o : Obj) : ((X.alloc (.cells #[] 2)).alloc o).drew.heap[X.heap.size]? = some (.cells #[] 2 (0, 0)) :=
  (Below.heap_alloc _ o _ (by simp)).trans (heap_alloc_new X _)
theorem empty_last (X : World) (o : Obj) : ((X.alloc o).alloc (.cells #[] 2)).drew.heap[X.heap.size + 1]? = some (.cells #[] 2 (0, 0)) := by
  have := heap_alloc_new (X.alloc o) (.cells #[] 2 (0, 0))
  rw [World.size_alloc] at this
  exact this

/-- 'append([]int64{}, ..)' as one step of a region that leaves its order open. -/
theorem step_copied {X W : World} {ops : Array Oper} {o : Oper} {a : Act} {K : Act → World → Prop} {Q : Exit → Act → World → Prop} {E : Prop} (hgd : o.guard = none) (s x : Operand)
    (ho : o.op = .call { callee := .builtin .append, args := #[s, x], argTypes := #[24, 24] }) (base g : Nat) (hs : a.eval s = .slice (some ⟨g, 0, none⟩) 0 0) (hg : W.heap[g]? = some (.cells #[] 2 (0, 0))) (hb : base ≤ X.heap.size) (hX : Below X.heap.size X W) (hXg : X.heap.size ≤ g)
    (ad : Addr) (m c : Nat) (ys : List Int) (hx : a.eval x = .slice (some ad) m c) (hm : ys.length = m) (hnews : ∀ W, Below X.heap.size X W → ∀ j u, (cellsOf ys)[j]? = some u → W.cell? (ad.add j) = some u) (hl : m ≤ 1048576)
    (h : ∀ v' w', Own w' base v' ys → Below X.heap.size X w' → K (a.put o.dst v') w') :
    if Region.wanted o (yielded ops a.tmps) = true then Oper.wp Try.prog o a W K Q else E := by
  obtain ⟨i0, hi, hz0, hz1, hz2⟩ := info_parts info
  have hw : Region.wanted o (yielded ops a.tmps) = true := by simp [Region.wanted, hgd]
  rw [if_pos hw]
  subst hm
  refine wp_append_own _ s x 24 ho base 2 i0 (.int .i64 0) 1 8 Try.underlying24 hi hz0 hz1 hz2 rfl (by decide) _ 0 [] hs (own_empty hg (Nat.le_trans hb hXg)) ad ys.length c (cellsOf ys) hx (by simp) (hnews W hX) (ints_oneCell _ _) (by unfold maxLen; omega) (by omega) (Nat.le_trans hb hX.size) ?_
  intro v' w' hown hgrow _
  refine h v' w' ?_ (hX.grown hgrow hX.size (fun k e => by cases e; exact hXg))
  rw [Nat.zero_add, List.nil_append] at hown
  exact hown

/-- Where the piece from j on begins, and what may be read there. -/
theorem piece_from {X : World} {b off cap : Nat} {xs : List Int} {j n : Nat} (hc : ∀ i, i < xs.length → X.cell? ⟨b, off + i, none⟩ = some (.int .i64 (xs.getD i 0))) (hj : j + n ≤ xs.length) (hcap : xs.length ≤ cap) (hb : b < X.heap.size) :
    ∃ ad : Addr, (if cap = j then some (⟨b, off, none⟩ : Addr) else some ⟨b, off + j, none⟩) = some ad ∧ ∀ W, Below X.heap.size X W → ∀ i u, (cellsOf ((xs.drop j).take n))[i]? = some u → W.cell? (ad.add i) = some u := by
  by_cases h0 : cap = j
  · obtain rfl : n = 0 := by omega
    exact ⟨_, by rw [if_pos h0], fun W _ i u h => by simp at h⟩
  · refine ⟨⟨b, off + j, none⟩, ?_, fun W hW i u hi => ?_⟩
    · rw [if_neg h0]
    · have hlt : i < n := by
        have := (List.getElem?_eq_some_iff.1 hi).1
        simp at this
        omega
      have := (hW.cell (p := ⟨b, off + (j + i), none⟩) hb).trans (hc (j + i) (by omega))
      simp [cellsOf, hlt] at hi
      obtain ⟨y, hy, rfl⟩ := hi
      rw [List.getD_eq_getElem?_getD, hy] at this
      by_cases hi0 : i = 0
      · subst hi0; simpa [Addr.add] using this
      · simpa [Addr.add, hi0, Nat.add_assoc] using this

set_option maxHeartbeats 8000000 in
theorem objAt_yes {w : World} {v : Value} {xs : List Int} (h : IntsAt w v xs) (hl : xs.length ≤ 1048576) (k n : Nat) (e0 : ¬ chunkAt xs k = 0) (s f c g : Int) (p m : Bool)
    (HL : ∀ (w : World) (v : Value), IntsAt w v xs → Calls Try.prog 77 #[v, .int .i64 k] w fun e w' => e = .returned (hv s f c g p m) ∧ Below w.heap.size w w')
    (e6 : ¬ f = 6) (hn : (if f = 7 then 1 else if f = 6 then 0 else s) = (n : Int)) (hkn : k + 1 + n ≤ xs.length) :
    Calls Try.prog 15 #[v, .int .i64 k] w fun e w' => ∃ v', e = .returned (.tuple #[hv s f c g p m, v', .bool true]) ∧ Own w' w.heap.size v' ((xs.drop (k + 1)).take n) ∧ Below w.heap.size w w' := by
  have B := (Below.refl w.heap.size w).alloc (Nat.le_refl _) (hb 0 0 0 0 false false)
  go_enter Try.func15, Try.ntmps15
  go_wp2_with fail
  refine (sChunkAt_any (intsAt_below h B) hl k).mono ?_
  rintro e w1 ⟨rfl, B1⟩
  have e0' : (chunkAt xs k == 0) = false := by simpa using e0
  have B0 := B.trans (B1.mono (by simp))
  go_wp2_with fail
  refine (HL _ _ (intsAt_below h B0)).mono ?_
  rintro e w2 ⟨rfl, B2⟩
  have e6' : (f == 6) = false := by simpa using e6
  have sz2 := B2.size
  have sz1 := B1.size
  simp only [World.size_alloc] at sz1
  have T1 : HeadAt w1 w.heap.size 0 0 0 0 false false := (B1.block w.heap.size (by simp)).trans (heap_alloc_new w _)
  have T2 := headAt_below T1 B2
  have B3 := B0.trans (B2.mono B0.size)
  clear B1 B2 B T1 B0
  generalize chunkAt xs k = z at *
  have FF := field_format s f c g p m
  have HN : Hid _ := hn
  clear hn
  go_wp2_with fail
  refine (HL _ _ (intsAt_below h B3)).mono ?_
  rintro e w4 ⟨rfl, B4⟩
  have T4 := headAt_below T2 B4
  have B5 := B3.trans (B4.mono B3.size)
  have sz4 := B4.size
  clear B4 T2 B3 e0 e0' FF
  have I5 := intsAt_below h B5
  clear h
  obtain ⟨a, cap, rfl, hlc, hcm, _, hcc⟩ := I5
  obtain ⟨b, off, rfl, hbl, hcc⟩ := hcc (by omega)
  have TH : HeadAt (w4.alloc (hb s f c g p m)) w4.heap.size s f c g p m := headAt_new _ _ _ _ _ _ _
  have TR : HeadAt (w4.alloc (hb s f c g p m)) w.heap.size 0 0 0 0 false false := headAt_alloc T4 _
  have BX : Below w.heap.size w (w4.alloc (hb s f c g p m)) := B5.alloc B5.size _
  have CX : ∀ i, i < xs.length → (w4.alloc (hb s f c g p m)).cell? ⟨b, off + i, none⟩ = some (.int .i64 (xs.getD i 0)) := fun i hi => (((Below.refl w4.heap.size w4).alloc (Nat.le_refl _) _).cell (p := ⟨b, off + i, none⟩) hbl).trans (hcc i hi)
  have nb : w4.heap.size < (w4.alloc (hb s f c g p m)).heap.size := by simp
  have ne : w.heap.size < w4.heap.size := by omega
  clear hcc T4 B5
  go_wp2_with fail
  generalize (w4.alloc (Obj.cells #[.int .i64 s, .int .i64 f, .int .i64 c, .int .i64 g, .bool p, .bool m] 26)) = X at *
  generalize w4.heap.size = q at *
  obtain ⟨ad, had, NEWS⟩ := piece_from (n := n) CX (show k + 1 + n ≤ xs.length by omega) hlc (by omega)
  have hk2 : ((k : Int) + 1).toNat = k + 1 := by omega
  have hk3 : ((k : Int) + 1 + n).toNat = k + 1 + n := by omega
  have hw1 : IntKind.i64.wrap ((k : Int) + 1) = (k : Int) + 1 := by rw [IntKind.wrap_i64]; omega
  have hw2 : IntKind.i64.wrap ((k : Int) + 1 + n) = (k : Int) + 1 + n := by rw [IntKind.wrap_i64]; omega
  have p0 : (0 : Int) ≤ (k : Int) + 1 + n := by omega
  have p1 : (k : Int) + 1 + n ≤ cap := by omega
  have p2 : (0 : Int) ≤ (k : Int) + 1 := by omega
  have p3 : max ((k : Int) + 1 + n) 0 = (k : Int) + 1 + n := by omega
  have p4 : k + 1 + n - (k + 1) = n := by omega
  have p5 : (k : Int) + 1 ≤ (k : Int) + 1 + n := by omega
  have hle : w.heap.size + 1 ≤ X.heap.size := by omega
  have HNEWS : Hid _ := NEWS
  have HTR : Hid _ := TR
  have HTH : Hid _ := TH
  have HBX : Hid _ := BX
  obtain ⟨h0, h1, h2, h3, h4, h5, hfz⟩ := headAt_cells TH
  clear CX NEWS TR TH BX
  go_region_law (first | (refine step_copied (X := X) rfl (.tmp 25) (.tmp 34) rfl (w.heap.size + 1) _ (by simp [Act.eval]; rfl) (by first | exact empty_first _ _ | exact empty_last _ _) hle (((Below.refl _ _).alloc (Nat.le_refl _) _).alloc (by simp) _).drew (by first | exact Nat.le_refl _ | simp) ad n (cap - (k + 1)) ((xs.drop (k + 1)).take n) (by simp [Act.eval, Act.put]) (by simp; omega) HNEWS.out (by omega) ?_; intro v' w' hO hB; have HO : Hid _ := hO; have HB : Hid _ := hB; obtain ⟨r0, r1, r2, r3, r4, r5, rfz⟩ := headAt_cells (headAt_below HTR.out hB); obtain ⟨g0, g1, g2, g3, g4, g5, gfz⟩ := headAt_cells (headAt_below HTH.out hB); clear hO hB) | (go_simp; refine (l4Count_any s f c g p m _).mono ?_; rintro e w' ⟨rfl, rfl⟩; rw [HN.out]))
  all_goals go_wp2
  all_goals exact bodyPost_ret (res_head_two (v := v') (u := .bool true) rfl (by simp [Act.put]) (by simp [Act.put]) (by simp [Act.put]) (six_set (headAt_below HTR.out HB.out) s f c g p m)) rfl ⟨v', rfl, own_base (own_six HO.out (Nat.lt_succ_self _) s f c g p m) (Nat.le_succ _), six_below (HBX.out.trans (HB.out.mono (Nat.le_of_succ_le hle))) (Nat.le_refl _) s f c g p m⟩
end Go.Proofs.Ytdogibjgogcdkab.walks
