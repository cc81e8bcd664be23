/-
  Chapter 4 as the specification has it: PutObject. Chapter 8 as lists: a free chunk written, what is freed, the places of free chunks. Chunks in memory: a block that holds one; what is read and stored of it. What the program's headAt and sizeBy answer. What the program's chunkOf and ChunkAt answer.
-/
import Derived.Test.YtacilbilnbmcbaaGreatM7
import Derived.Test.YtacilbilnbmcbaaGreatM1
import Derived.Test.YtacilbilnbmcbaaGreatM4
import Derived.Test.YtacilbilnbmcbaaGreatM5
import Derived.Test.YtacilbilnbmcbaaGreatM2
namespace Go.Proofs.YtacilbilnbmcbaaGreat.walks
open Go.RowKit rows heads words
set_option maxRecDepth 100000

theorem own_nothing2 {w : World} {base g : Nat} (hg : g = w.heap.size) (hb : base ≤ g) : rows.Own (w.alloc (.cells #[] 2)) base (.slice (some ⟨g, 0, none⟩) 0 0) [] := by
  subst hg; exact own_nothing w base hb
theorem all_not {ys : List Int} {q : Nat} (hq : q < ys.length) (h : isW (ys.getD q 0) = false) : ys.all isW = false := by
  rw [List.all_eq_false]
  refine ⟨ys.getD q 0, ?_, by rw [h]; simp⟩
  rw [List.getD_eq_getElem?_getD, List.getElem?_eq_getElem hq]
  exact List.getElem_mem hq
theorem all_yes {ys : List Int} (h : ∀ q, q < ys.length → isW (ys.getD q 0) = true) : ys.all isW = true := by
  rw [List.all_eq_true]
  intro x hx
  obtain ⟨q, hq, rfl⟩ := List.mem_iff_getElem.1 hx
  have := h q hq
  rwa [List.getD_eq_getElem?_getD, List.getElem?_eq_getElem hq] at this

theorem putOk_false {xs ys : List Int} {i s f c g : Int} {p m : Bool} (h : ¬ (hok s f c g p m = true ∧ f ≤ 2 ∧ m = false ∧ (ys.length : Int) = s ∧ atOk xs i = true ∧ i + sz s ≤ xs.length ∧ ys.all isW = true)) : putOk xs i s f c g p m ys = false := by
  cases e : putOk xs i s f c g p m ys
  · rfl
  · refine absurd ?_ h
    simp only [putOk, Bool.and_eq_true, decide_eq_true_eq, Bool.not_eq_true'] at e
    obtain ⟨⟨_, ⟨⟨⟨⟨e1, e2⟩, e3⟩, e4⟩, e5⟩, e6⟩, e7⟩ := e
    exact ⟨e1, e2, e3, e4, e5, e6, e7⟩
theorem putOk_true {xs ys : List Int} {i s f c g : Int} {p m : Bool} (d : rowOk xs = true) (h : hok s f c g p m = true ∧ f ≤ 2 ∧ m = false ∧ (ys.length : Int) = s ∧ atOk xs i = true ∧ i + sz s ≤ xs.length ∧ ys.all isW = true) : putOk xs i s f c g p m ys = true := by
  obtain ⟨e1, e2, e3, e4, e5, e6, e7⟩ := h
  unfold putOk
  rw [d, e1, e3, e5, e7, decide_eq_true e2, decide_eq_true e4, decide_eq_true e6]
  rfl

end Go.Proofs.YtacilbilnbmcbaaGreat.walks
namespace Go.Proofs.YtacilbilnbmcbaaGreat.walks
open Go.RowKit rows heads words

/-- The row with a free chunk of n words there. -/
def freeR (xs : List Int) (k n : Nat) : List Int := put xs k (pk 0 6 0 0 false false) [(n : Int)] 1 n
theorem freeR_set {xs : List Int} {k n : Nat} (h : k + n ≤ xs.length) (h2 : 2 ≤ n) : ((fill xs k n 0).set k (pk 0 6 0 0 false false)).set (k + 1) (n : Int) = freeR xs k n := by
  rw [put_zero (ys := [(n : Int)]) h (by omega)]
  have := put_set (xs := xs) (ys := [(n : Int)]) (k := k) (j := 0) (n := n) (hd := pk 0 6 0 0 false false) h (by simp) (by simp; omega)
  unfold freeR
  simpa using this
theorem freeR_length {xs : List Int} {k n : Nat} (h : k + n ≤ xs.length) (h2 : 2 ≤ n) : (freeR xs k n).length = xs.length := put_length h (by simp) (by omega)

/-- What is freed there. -/
def freed (xs : List Int) (i : Int) : List Int := if objOk xs i = true then freeR xs i.toNat (chunk xs i.toNat).toNat else if rowOk xs = true then xs else []
theorem freed_length (xs : List Int) (i : Int) (hl : xs.length ≤ 1048576) : (freed xs i).length ≤ 1048576 := by
  unfold freed
  split
  · rename_i h
    simp only [objOk, Bool.and_eq_true, decide_eq_true_eq] at h
    have h1 := h.1
    unfold chunkAt at h1
    split at h1
    · have := chunk_bounds xs i.toNat
      rw [freeR_length (by omega) (by omega)]
      exact hl
    · exact absurd rfl h1
  · split
    · exact hl
    · simp

/-- Is the chunk there free? -/
def isFreeAt (xs : List Int) (i : Int) : Bool := uF (xs.getD i.toNat 0) == 6
/-- The places of free chunks. -/
def freeIn (xs : List Int) (f t : Int) : List Int := (walked xs f t).filter (isFreeAt xs)
theorem freeIn_length (xs : List Int) (f t : Int) : (freeIn xs f t).length ≤ 1000 ∧ AllI (freeIn xs f t) := by
  have := walked_length xs f t
  exact ⟨Nat.le_trans (List.length_filter_le _ _) this.1, fun x hx => this.2 x (List.mem_filter.1 hx).1⟩
/-- Each place of a walk is a place of the row where a chunk is. -/
theorem walkL_mem (xs : List Int) (t : Nat) (_ht : t ≤ xs.length) : ∀ (n k : Nat) (l : List Int), walkL xs t n k = some l → ∀ x ∈ l, ∃ j : Nat, x = j ∧ k ≤ j ∧ j < t ∧ chunk xs j ≠ 0 := by
  intro n
  induction n with
  | zero =>
    intro k l h
    unfold walkL at h
    split at h
    · cases h
    · cases h; simp
  | succ n ih =>
    intro k l h
    by_cases h1 : k < t
    · by_cases hb : chunk xs k = 0 ∨ (k : Int) + chunk xs k > t
      · rw [walkL_bad _ _ _ _ h1 hb] at h; cases h
      · rw [walkL_step _ _ _ _ h1 hb] at h
        obtain ⟨l', hl', rfl⟩ := Option.map_eq_some_iff.1 h
        intro x hx
        rcases List.mem_cons.1 hx with rfl | hx
        · exact ⟨k, rfl, Nat.le_refl _, h1, fun e => hb (.inl e)⟩
        · obtain ⟨j, a, b, c, d⟩ := ih _ _ hl' x hx
          exact ⟨j, a, by omega, c, d⟩
    · rw [walkL_end _ _ _ _ h1] at h
      cases h; simp
theorem walked_mem {xs : List Int} {f t : Int} {x : Int} (h : x ∈ walked xs f t) : ∃ j : Nat, x = j ∧ j < xs.length ∧ rowOk xs = true ∧ chunk xs j ≠ 0 := by
  unfold walked walkR at h
  split at h
  · rename_i hr
    simp only [rangeOk, Bool.and_eq_true, decide_eq_true_eq] at hr
    cases e : walkO xs f.toNat t.toNat with
    | none => rw [e] at h; simp at h
    | some l =>
      rw [e] at h
      obtain ⟨j, a, _, c, d⟩ := walkL_mem xs t.toNat (by omega) _ _ _ e x (by simpa using h)
      exact ⟨j, a, by omega, hr.1, d⟩
  · simp at h
end Go.Proofs.YtacilbilnbmcbaaGreat.walks
namespace Go.Proofs.YtacilbilnbmcbaaGreat.heads
open Go.RowKit
set_option maxRecDepth 100000

/-- A chunk as a value: its head's six fields and its words. -/
abbrev cv (s f c h : Int) (p m : Bool) (u : Value) : Value := .agg #[.int .i64 s, .int .i64 f, .int .i64 c, .int .i64 h, .bool p, .bool m, u]
/-- The block in which a chunk lies. -/
abbrev cb (s f c h : Int) (p m : Bool) (u : Value) : Obj := .cells #[.int .i64 s, .int .i64 f, .int .i64 c, .int .i64 h, .bool p, .bool m, u] 77
/-- The block b holds such a chunk. -/
def ChAt (w : World) (b : Nat) (s f c h : Int) (p m : Bool) (u : Value) : Prop := w.heap[b]? = some (.cells #[.int .i64 s, .int .i64 f, .int .i64 c, .int .i64 h, .bool p, .bool m, u] 77 (0, 0))

theorem chAt_cells {w : World} {b : Nat} {s f c h : Int} {p m : Bool} {u : Value} (hh : ChAt w b s f c h p m u) :
    w.cell? ⟨b, 0, none⟩ = some (.int .i64 s) ∧ w.cell? ⟨b, 1, none⟩ = some (.int .i64 f) ∧ w.cell? ⟨b, 2, none⟩ = some (.int .i64 c) ∧ w.cell? ⟨b, 3, none⟩ = some (.int .i64 h) ∧ w.cell? ⟨b, 4, none⟩ = some (.bool p) ∧ w.cell? ⟨b, 5, none⟩ = some (.bool m) ∧ w.cell? ⟨b, 6, none⟩ = some u ∧ ∀ k, w.frozen? ⟨b, k, none⟩ = false := by
  unfold ChAt at hh
  refine ⟨?_, ?_, ?_, ?_, ?_, ?_, ?_, fun k => ?_⟩
  all_goals simp [World.cell?, World.frozen?, hh]
theorem chAt_new (w : World) (s f c h : Int) (p m : Bool) (u : Value) : ChAt (w.alloc (cb s f c h p m u)) w.heap.size s f c h p m u := heap_alloc_new w _
theorem chAt_alloc {w : World} {b : Nat} {s f c h : Int} {p m : Bool} {u : Value} (hh : ChAt w b s f c h p m u) (o : Obj) : ChAt (w.alloc o) b s f c h p m u := (Below.heap_alloc w o b (lt_of_block hh)).trans hh
theorem chAt_below {w w' : World} {b : Nat} {s f c h : Int} {p m : Bool} {u : Value} (T : ChAt w b s f c h p m u) (hb : Below w.heap.size w w') : ChAt w' b s f c h p m u := (hb.block b (lt_of_block T)).trans T
theorem chAt_set0 {w : World} {b : Nat} {s f c h : Int} {p m : Bool} {u : Value} (hh : ChAt w b s f c h p m u) (x : Int) : ChAt (w.setCell ⟨b, 0, none⟩ (.int .i64 x)) b x f c h p m u := (cells_setCell hh 0 _).trans rfl
theorem chAt_set1 {w : World} {b : Nat} {s f c h : Int} {p m : Bool} {u : Value} (hh : ChAt w b s f c h p m u) (x : Int) : ChAt (w.setCell ⟨b, 1, none⟩ (.int .i64 x)) b s x c h p m u := (cells_setCell hh 1 _).trans rfl
theorem chAt_set2 {w : World} {b : Nat} {s f c h : Int} {p m : Bool} {u : Value} (hh : ChAt w b s f c h p m u) (x : Int) : ChAt (w.setCell ⟨b, 2, none⟩ (.int .i64 x)) b s f x h p m u := (cells_setCell hh 2 _).trans rfl
theorem chAt_set3 {w : World} {b : Nat} {s f c h : Int} {p m : Bool} {u : Value} (hh : ChAt w b s f c h p m u) (x : Int) : ChAt (w.setCell ⟨b, 3, none⟩ (.int .i64 x)) b s f c x p m u := (cells_setCell hh 3 _).trans rfl
theorem chAt_set4 {w : World} {b : Nat} {s f c h : Int} {p m : Bool} {u : Value} (hh : ChAt w b s f c h p m u) (x : Bool) : ChAt (w.setCell ⟨b, 4, none⟩ (.bool x)) b s f c h x m u := (cells_setCell hh 4 _).trans rfl
theorem chAt_set5 {w : World} {b : Nat} {s f c h : Int} {p m : Bool} {u : Value} (hh : ChAt w b s f c h p m u) (x : Bool) : ChAt (w.setCell ⟨b, 5, none⟩ (.bool x)) b s f c h p x u := (cells_setCell hh 5 _).trans rfl
theorem chAt_set6 {w : World} {b : Nat} {s f c h : Int} {p m : Bool} {u : Value} (hh : ChAt w b s f c h p m u) (x : Value) : ChAt (w.setCell ⟨b, 6, none⟩ x) b s f c h p m x := (cells_setCell hh 6 _).trans rfl
theorem seven_set {X : World} {b : Nat} {s' f' c' h' : Int} {p' m' : Bool} {u' : Value} (T : ChAt X b s' f' c' h' p' m' u') (s f c h : Int) (p m : Bool) (u : Value) :
    ChAt (((((((X.setCell ⟨b, 0, none⟩ (.int .i64 s)).setCell ⟨b, 1, none⟩ (.int .i64 f)).setCell ⟨b, 2, none⟩ (.int .i64 c)).setCell ⟨b, 3, none⟩ (.int .i64 h)).setCell ⟨b, 4, none⟩ (.bool p)).setCell ⟨b, 5, none⟩ (.bool m)).setCell ⟨b, 6, none⟩ u) b s f c h p m u := 
  chAt_set6 (chAt_set5 (chAt_set4 (chAt_set3 (chAt_set2 (chAt_set1 (chAt_set0 T _) _) _) _) _) _) _
theorem seven_below {n : Nat} {w X : World} {b : Nat} (hB : Below n w X) (hb : n ≤ b) (s f c h : Int) (p m : Bool) (u : Value) : Below n w (((((((X.setCell ⟨b, 0, none⟩ (.int .i64 s)).setCell ⟨b, 1, none⟩ (.int .i64 f)).setCell ⟨b, 2, none⟩ (.int .i64 c)).setCell ⟨b, 3, none⟩ (.int .i64 h)).setCell ⟨b, 4, none⟩ (.bool p)).setCell ⟨b, 5, none⟩ (.bool m)).setCell ⟨b, 6, none⟩ u) :=
  (six_below hB hb s f c h p m).setCell (p := ⟨b, 6, none⟩) hb _
theorem res_chunk_one {fn : Func} {tmps : Array Value} {X : World} {j k b : Nat} {s f c h : Int} {p m : Bool} {u v : Value} (hf : fn.results = #[.cell j 77, .tmp k]) (h2 : tmps[j]? = some (.pointer (some ⟨b, 0, none⟩))) (hk : tmps[k]? = some v) (hX : ChAt X b s f c h p m u) :
    (results fn tmps).run Tryz.prog X = .ok (.tuple #[cv s f c h p m u, v]) X := by
  obtain ⟨k0, k1, k2, k3, k4, k5, k6, _⟩ := chAt_cells hX
  clear hX
  simp [results, hf, h2, hk, go_sem, k0, k1, k2, k3, k4, k5, k6]
theorem res_head_one {fn : Func} {tmps : Array Value} {X : World} {j k b : Nat} {s f c h : Int} {p m : Bool} {v : Value} (hf : fn.results = #[.cell j 62, .tmp k]) (h2 : tmps[j]? = some (.pointer (some ⟨b, 0, none⟩))) (hk : tmps[k]? = some v) (hX : HeadAt X b s f c h p m) :
    (results fn tmps).run Tryz.prog X = .ok (.tuple #[hv s f c h p m, v]) X := by
  obtain ⟨k0, k1, k2, k3, k4, k5, _⟩ := headAt_cells hX
  clear hX
  simp [results, hf, h2, hk, go_sem, k0, k1, k2, k3, k4, k5]

theorem size_any (s f c h : Int) (p m : Bool) (a : Option Addr) (len cap : Nat) (w : World) :
    Calls Tryz.prog 103 #[cv s f c h p m (.slice a len cap)] w fun e w' => e = .returned (.int .i64 len) ∧ w' = w.alloc (cb s f c h p m (.slice a len cap)) := by
  go_enter Tryz.func103, Tryz.ntmps103
  go_wp2
  go_ret
  exact ⟨rfl, rfl⟩
theorem isNote_any (s f c h : Int) (p m : Bool) (u : Value) (w : World) :
    Calls Tryz.prog 77 #[cv s f c h p m u] w fun e w' => e = .returned (.bool (f == 7)) ∧ w' = w.alloc (cb s f c h p m u) := by
  go_enter Tryz.func77, Tryz.ntmps77
  go_wp2
  go_ret
  exact ⟨rfl, rfl⟩
end Go.Proofs.YtacilbilnbmcbaaGreat.heads
namespace Go.Proofs.YtacilbilnbmcbaaGreat.walks
open Go.RowKit rows heads words
set_option maxRecDepth 100000

theorem headAt_no {w : World} {v : Value} {xs : List Int} (h : IntsAt w v xs) (hl : xs.length ≤ 1048576) (i : Int) (hi : I64 i) (d : okAt xs i = false) :
    Calls Tryz.prog 104 #[v, .int .i64 i] w fun e w' => e = .returned (.tuple #[hv 0 0 0 0 false false, .bool false]) ∧ Below w.heap.size w w' := by
  have B0 : Below w.heap.size w (w.alloc (hb 0 0 0 0 false false)) := (Below.refl _ _).alloc (Nat.le_refl _) _
  have T0 := headAt_new w 0 0 0 0 false false
  have s0 : w.heap.size + 1 ≤ (w.alloc (hb 0 0 0 0 false false)).heap.size := by simp
  have RD := implReadAt _ v xs i (intsAt_below h B0) hl hi
  rw [d] at RD
  go_enter Tryz.func104, Tryz.ntmps104
  go_wp2_with fail
  generalize (w.alloc (Obj.cells #[.int .i64 0, .int .i64 0, .int .i64 0, .int .i64 0, .bool false, .bool false] 62)) = X at *
  refine RD.mono ?_
  rintro e w1 ⟨rfl, b1⟩
  have T1 := headAt_below T0 b1
  have B1 := B0.trans (b1.mono (by omega))
  obtain ⟨t0, t1, t2, t3, t4, t5, tf⟩ := headAt_cells T1
  have f0 := tf 0; have f1 := tf 1; have f2 := tf 2; have f3 := tf 3; have f4 := tf 4; have f5 := tf 5
  have T2 : Hid _ := six_set T1 0 0 0 0 false false
  have B2 : Hid _ := six_below B1 (Nat.le_refl _) 0 0 0 0 false false
  clear b1 RD T0 B0 B1 tf T1
  generalize readAt xs i = z at *
  go_wp2
  exact bodyPost_ret (v := .tuple #[hv 0 0 0 0 false false, .bool false]) (res_head_one rfl rfl rfl T2) rfl ⟨rfl, B2⟩

theorem headAt_drew {w : World} {b : Nat} {s f c h : Int} {p m : Bool} (hh : HeadAt w b s f c h p m) : HeadAt w.drew b s f c h p m := hh

theorem headAt_yes {w : World} {v : Value} {xs : List Int} (h : IntsAt w v xs) (hl : xs.length ≤ 1048576) (k : Nat) (d : okAt xs k = true) (hx : I64 (xs.getD k 0)) :
    Calls Tryz.prog 104 #[v, .int .i64 k] w fun e w' => e = .returned (.tuple #[hv (uS (xs.getD k 0)) (uF (xs.getD k 0)) (uC (xs.getD k 0)) (uH (xs.getD k 0)) (uP (xs.getD k 0)) (uM (xs.getD k 0)), .bool (ok (xs.getD k 0) && !uM (xs.getD k 0))]) ∧ Below w.heap.size w w' := by
  have hk : (k : Int) < xs.length := (atOk_true (by simp only [okAt, Bool.and_eq_true] at d; exact d.2)).2
  have B0 : Below w.heap.size w (w.alloc (hb 0 0 0 0 false false)) := (Below.refl _ _).alloc (Nat.le_refl _) _
  have T0 := headAt_new w 0 0 0 0 false false
  have s0 : w.heap.size + 1 ≤ (w.alloc (hb 0 0 0 0 false false)).heap.size := by simp
  have RD := implReadAt _ v xs k (intsAt_below h B0) hl ⟨by omega, by omega⟩
  have er : readAt xs k = xs.getD k 0 := by simp [readAt, d]
  rw [d, er] at RD
  generalize xs.getD k 0 = x at *
  have UN : ∀ W, _ := fun W => unpacked_any x hx.2 W
  generalize ok x = o at *
  generalize uS x = s at *
  generalize uF x = f at *
  generalize uC x = c at *
  generalize uH x = g at *
  generalize uP x = p at *
  generalize uM x = m at *
  clear er
  go_enter Tryz.func104, Tryz.ntmps104
  go_wp2_with fail
  generalize (w.alloc (Obj.cells #[.int .i64 0, .int .i64 0, .int .i64 0, .int .i64 0, .bool false, .bool false] 62)) = X at *
  refine RD.mono ?_
  rintro e w1 ⟨rfl, b1⟩
  have s1 := b1.size
  have T1 := headAt_below T0 b1
  have B1 := B0.trans (b1.mono (by omega))
  clear b1 RD T0 B0
  go_wp2_with fail
  refine (UN _).mono ?_
  clear UN
  rintro e w2 ⟨rfl, b2⟩
  have s2 := b2.size
  have T2 := headAt_alloc (headAt_below T1 b2) (hb s f c g p m)
  have B2 := (B1.trans (b2.mono (by omega))).alloc (by omega) (hb s f c g p m)
  have N2 := headAt_new w2 s f c g p m
  clear b2 T1 B1
  have ne : w.heap.size ≠ w2.heap.size := by omega
  go_wp2_with fail
  generalize hY : w2.alloc (Obj.cells #[.int .i64 s, .int .i64 f, .int .i64 c, .int .i64 g, .bool p, .bool m] 62) = Y at *
  clear hY
  have T2 : HeadAt Y w.heap.size 0 0 0 0 false false := T2
  have N2 : HeadAt Y w2.heap.size s f c g p m := N2
  have B2 : Below w.heap.size w Y := B2
  obtain ⟨t0, t1, t2, t3, t4, t5, tf⟩ := headAt_cells T2
  have f0 := tf 0; have f1 := tf 1; have f2 := tf 2; have f3 := tf 3; have f4 := tf 4; have f5 := tf 5
  obtain ⟨n0, n1, n2, n3, n4, n5, nf⟩ := headAt_cells N2
  have T3 : Hid _ := headAt_drew (six_set T2 s f c g p m)
  have B3 : Hid _ := (six_below B2 (Nat.le_refl _) s f c g p m).drew
  clear tf nf N2 B2 T2
  cases o
  · go_region
    all_goals go_wp2
    all_goals exact bodyPost_ret (v := .tuple #[hv s f c g p m, .bool false]) (res_head_one rfl rfl rfl T3) rfl ⟨rfl, B3⟩
  · go_region
    all_goals go_wp2
    all_goals exact bodyPost_ret (v := .tuple #[hv s f c g p m, .bool (!m)]) (res_head_one rfl rfl rfl T3) rfl ⟨rfl, B3⟩

/-- Is this what a free chunk may say of itself? -/
def csOk (n : Int) : Bool := decide (2 ≤ n ∧ n % 2 = 0)
theorem chunkSizeOk_any (n : Int) (w : World) (hn : I64 n) :
    Calls Tryz.prog 117 #[.int .i64 n] w fun e w' => e = .returned (.bool (csOk n)) ∧ w' = w := by
  unfold I64 at hn
  by_cases h1 : n ≥ 2
  · by_cases h2 : n % 2 = 0
    · have e : csOk n = true := by simp [csOk, h2]; omega
      go_enter Tryz.func117, Tryz.ntmps117
      go_wp2
      go_ret
      exact ⟨by simp [e], rfl⟩
    · have e : csOk n = false := by simp [csOk, h2]
      go_enter Tryz.func117, Tryz.ntmps117
      go_wp2
      go_ret
      exact ⟨by simp [e, h2], rfl⟩
  · have e : csOk n = false := by simp [csOk]; omega
    go_enter Tryz.func117, Tryz.ntmps117
    go_wp2
    go_ret
    exact ⟨rfl, rfl⟩

/-- What the head, or the word behind it, tells of the size; 0: nothing. -/
def sbOf (xs : List Int) (k : Nat) (s f : Int) : Int := if f = 6 then (if csOk (readAt xs ((k : Int) + 1)) = true then readAt xs ((k : Int) + 1) else 0) else sz s

theorem readAt_I {xs : List Int} (h : AllI xs) (i : Int) : I64 (readAt xs i) := by
  unfold readAt
  split
  · rename_i d
    simp only [okAt, Bool.and_eq_true] at d
    have := atOk_true d.2
    exact allI_at h (by omega)
  · exact ⟨by decide, by decide⟩

theorem sizeBy_any {w : World} {v : Value} {xs : List Int} (h : IntsAt w v xs) (hl : xs.length ≤ 1048576) (ha : AllI xs) (k : Nat) (hk : k ≤ 1048576) (s f c g : Int) (p m : Bool) :
    Calls Tryz.prog 105 #[v, .int .i64 k, hv s f c g p m] w fun e w' => e = .returned (.int .i64 (sbOf xs k s f)) ∧ Below w.heap.size w w' := by
  have B0 : Below w.heap.size w (w.alloc (hb s f c g p m)) := (Below.refl _ _).alloc (Nat.le_refl _) _
  have s0 : w.heap.size ≤ (w.alloc (hb s f c g p m)).heap.size := by simp
  have RD := implReadAt _ v xs ((k : Int) + 1) (intsAt_below h B0) hl ⟨by omega, by omega⟩
  have IY := readAt_I ha ((k : Int) + 1)
  by_cases h6 : f = 6
  · have e : sbOf xs k s f = if csOk (readAt xs ((k : Int) + 1)) = true then readAt xs ((k : Int) + 1) else 0 := by simp [sbOf, h6]
    rw [e]
    generalize readAt xs ((k : Int) + 1) = y at *
    generalize okAt xs ((k : Int) + 1) = o at *
    have CS : ∀ W, _ := fun W => chunkSizeOk_any y W IY
    subst h6
    clear e ha
    cases d : csOk y
    · have E : (if false = true then y else 0) = 0 := rfl
      rw [E]
      clear E
      go_enter Tryz.func105, Tryz.ntmps105
      go_wp2_with fail
      generalize (w.alloc (Obj.cells #[.int .i64 s, .int .i64 6, .int .i64 c, .int .i64 g, .bool p, .bool m] 62)) = X at *
      refine RD.mono ?_
      rintro e w1 ⟨rfl, b1⟩
      have B1 : Hid _ := B0.trans (b1.mono s0)
      clear b1 RD B0
      go_wp2_with (go_at_call 117; refine (CS _).mono ?_; rintro e w2 ⟨rfl, rfl⟩)
      go_ret
      exact ⟨rfl, B1⟩
    · have E : (if true = true then y else 0) = y := rfl
      rw [E]
      clear E
      go_enter Tryz.func105, Tryz.ntmps105
      go_wp2_with fail
      generalize (w.alloc (Obj.cells #[.int .i64 s, .int .i64 6, .int .i64 c, .int .i64 g, .bool p, .bool m] 62)) = X at *
      refine RD.mono ?_
      rintro e w1 ⟨rfl, b1⟩
      have B1 : Hid _ := B0.trans (b1.mono s0)
      clear b1 RD B0
      go_wp2_with (go_at_call 117; refine (CS _).mono ?_; rintro e w2 ⟨rfl, rfl⟩)
      go_ret
      exact ⟨rfl, B1⟩
  · have e : sbOf xs k s f = sz s := by simp [sbOf, h6]
    rw [e]
    clear RD e
    go_enter Tryz.func105, Tryz.ntmps105
    go_wp2_with (go_at_call 116; refine (sizeOf_any _ _).mono ?_; rintro e w2 ⟨rfl, rfl⟩)
    go_ret
    exact ⟨rfl, B0⟩
end Go.Proofs.YtacilbilnbmcbaaGreat.walks
namespace Go.Proofs.YtacilbilnbmcbaaGreat.walks
open Go.RowKit rows heads words
set_option maxRecDepth 100000

theorem sbOf_I {xs : List Int} (ha : AllI xs) (k : Nat) (s f : Int) : I64 (sbOf xs k s f) := by
  have := readAt_I ha ((k : Int) + 1)
  unfold sbOf
  split
  · split
    · exact this
    · exact ⟨by decide, by decide⟩
  · unfold sz I64
    split
    · rename_i h; have := inR_true h; omega
    · omega

theorem cutOk_of {len : Nat} {f n : Int} (h : 0 ≤ f ∧ 0 ≤ n ∧ f + n ≤ len) : cutOk len f n = true := by simpa [cutOk] using h
/-- The chunk, as the program reckons it. -/
theorem chunk_by {xs : List Int} {k : Nat} (d : okAt xs k = true) (e : (ok (xs.getD k 0) && !uM (xs.getD k 0)) = true) :
    chunk xs k = if cutOk xs.length k (sbOf xs k (uS (xs.getD k 0)) (uF (xs.getD k 0))) = true ∧ sbOf xs k (uS (xs.getD k 0)) (uF (xs.getD k 0)) ≠ 0 ∧ (uF (xs.getD k 0) = 7 → isA (xs.getD (k + 1) 0) = true)
      then sbOf xs k (uS (xs.getD k 0)) (uF (xs.getD k 0)) else 0 := by
  have bs := uS_bounds (xs.getD k 0)
  have zs := sz_bounds bs.1 bs.2
  simp only [okAt, Bool.and_eq_true] at d
  have hk := atOk_true d.2
  unfold chunk
  rw [if_pos e]
  unfold sbOf
  by_cases h6 : uF (xs.getD k 0) = 6
  · rw [if_pos h6, if_pos h6, h6]
    by_cases hk1 : k + 1 < xs.length
    · have er : readAt xs ((k : Int) + 1) = xs.getD (k + 1) 0 := by
        have : okAt xs ((k : Int) + 1) = true := by simp only [okAt, Bool.and_eq_true]; exact ⟨d.1, by simp [atOk]; omega⟩
        simp only [readAt, this, if_true]
        congr 1
      rw [er]
      generalize xs.getD (k + 1) 0 = y
      by_cases hf : freeOk xs.length k y = true
      · have hf' := hf
        simp only [freeOk, decide_eq_true_eq] at hf'
        have hc : csOk y = true := by simp [csOk]; omega
        rw [if_pos ⟨hk1, hf⟩, if_pos hc, if_pos]
        exact ⟨cutOk_of (by omega), by omega, by omega⟩
      · rw [if_neg (by simp [hf])]
        by_cases hc : csOk y = true
        · rw [if_pos hc, if_neg]
          rintro ⟨h1, h2, _⟩
          simp only [freeOk, decide_eq_true_eq] at hf
          simp only [csOk, decide_eq_true_eq] at hc
          have := cutOk_true h1
          omega
        · rw [if_neg hc, if_neg (by simp)]
    · have er : readAt xs ((k : Int) + 1) = 0 := by
        have : okAt xs ((k : Int) + 1) = false := by simp [okAt, atOk]; omega
        simp [readAt, this]
      rw [er, if_neg (by omega)]
      simp
  · rw [if_neg h6, if_neg h6]
    by_cases hc : (k : Int) + sz (uS (xs.getD k 0)) ≤ xs.length ∧ (uF (xs.getD k 0) = 7 → isA (xs.getD (k + 1) 0) = true)
    · rw [if_pos hc, if_pos]
      exact ⟨cutOk_of (by omega), by omega, hc.2⟩
    · rw [if_neg hc, if_neg]
      rintro ⟨h1, _, h3⟩
      have := cutOk_true h1
      exact hc ⟨by omega, h3⟩

theorem sbOf_two (xs : List Int) (k : Nat) (s f : Int) : sbOf xs k s f = 0 ∨ 2 ≤ sbOf xs k s f := by
  unfold sbOf
  split
  · split
    · rename_i h
      simp only [csOk, decide_eq_true_eq] at h
      exact .inr h.1
    · exact .inl rfl
  · unfold sz
    split
    · rename_i h; have := inR_true h; omega
    · exact .inl rfl
/-- The zero chunk, and no. -/
abbrev noChunk : Value := .tuple #[cv 0 0 0 0 false false (.slice none 0 0), .bool false]

theorem chunkOf_out {w : World} {v : Value} {xs : List Int} (h : IntsAt w v xs) (hl : xs.length ≤ 1048576) (i : Int) (hi : I64 i) (d : okAt xs i = false) :
    Calls Tryz.prog 88 #[v, .int .i64 i] w fun e w' => e = .returned noChunk ∧ Below w.heap.size w w' := by
  have B0 : Below w.heap.size w (w.alloc (cb 0 0 0 0 false false (.slice none 0 0))) := (Below.refl _ _).alloc (Nat.le_refl _) _
  have T0 := chAt_new w 0 0 0 0 false false (.slice none 0 0)
  have s0 : w.heap.size + 1 ≤ (w.alloc (cb 0 0 0 0 false false (.slice none 0 0))).heap.size := by simp
  have RD := headAt_no (intsAt_below h B0) hl i hi d
  go_enter Tryz.func88, Tryz.ntmps88
  go_wp2_with fail
  generalize (w.alloc (Obj.cells #[.int .i64 0, .int .i64 0, .int .i64 0, .int .i64 0, .bool false, .bool false, .slice none 0 0] 77)) = X at *
  refine RD.mono ?_
  rintro e w1 ⟨rfl, b1⟩
  have s1 := b1.size
  have T1 := chAt_alloc (chAt_below T0 b1) (hb 0 0 0 0 false false)
  have B1 := (B0.trans (b1.mono (by omega))).alloc (by omega) (hb 0 0 0 0 false false)
  obtain ⟨t0, t1, t2, t3, t4, t5, t6, tf⟩ := chAt_cells T1
  have f0 := tf 0; have f1 := tf 1; have f2 := tf 2; have f3 := tf 3; have f4 := tf 4; have f5 := tf 5; have f6 := tf 6
  have T2 : Hid _ := seven_set T1 0 0 0 0 false false (.slice none 0 0)
  have B2 : Hid _ := seven_below B1 (Nat.le_refl _) 0 0 0 0 false false (.slice none 0 0)
  clear b1 RD T0 B0 B1 tf T1
  go_wp2
  exact bodyPost_ret (v := noChunk) (res_chunk_one rfl rfl rfl T2) rfl ⟨rfl, B2⟩

/-- What chunkOf answers at a place of a row. -/
def chRes (a : Option Addr) (xs : List Int) (k : Nat) : Value :=
  if chunk xs k = 0 then noChunk else .tuple #[cv (uS (xs.getD k 0)) (uF (xs.getD k 0)) (uC (xs.getD k 0)) (uH (xs.getD k 0)) (uP (xs.getD k 0)) (uM (xs.getD k 0)) (piece a k (chunk xs k).toNat), .bool true]

set_option maxHeartbeats 1000000 in
theorem chunkOf_in {w : World} {a : Option Addr} {cap : Nat} {xs : List Int} (h : IntsAt w (.slice a xs.length cap) xs) (hl : xs.length ≤ 1048576) (ha : AllI xs) (k : Nat) (d : okAt xs k = true) :
    Calls Tryz.prog 88 #[.slice a xs.length cap, .int .i64 k] w fun e w' => e = .returned (chRes a xs k) ∧ Below w.heap.size w w' := by
  have h' := h
  obtain ⟨a', cap', e', hlc, hcm, hnil, hc⟩ := h
  injection e' with e1 e2 e3
  subst e1 e3
  have hk : k < xs.length := by
    simp only [okAt, Bool.and_eq_true] at d
    have := atOk_true d.2
    omega
  obtain ⟨b, off, rfl, hblk, hcc⟩ := hc (by omega)
  have hx := allI_at ha hk
  have BY := fun e => chunk_by (xs := xs) (k := k) d e
  have B0 : Below w.heap.size w (w.alloc (cb 0 0 0 0 false false (.slice none 0 0))) := (Below.refl _ _).alloc (Nat.le_refl _) _
  have T0 := chAt_new w 0 0 0 0 false false (.slice none 0 0)
  have s0 : w.heap.size + 1 ≤ (w.alloc (cb 0 0 0 0 false false (.slice none 0 0))).heap.size := by simp
  have RD := headAt_yes (intsAt_below h' B0) hl k d hx
  have SB : ∀ (W : World), Below w.heap.size w W → _ := fun W hW => sizeBy_any (intsAt_below h' hW) hl ha k (by omega) (uS (xs.getD k 0)) (uF (xs.getD k 0)) (uC (xs.getD k 0)) (uH (xs.getD k 0)) (uP (xs.getD k 0)) (uM (xs.getD k 0))
  have NI := sbOf_I ha k (uS (xs.getD k 0)) (uF (xs.getD k 0))
  have RES0 : Hid (chunk xs k = 0 → chRes (some ⟨b, off, none⟩) xs k = noChunk) := fun e => by unfold chRes; rw [if_pos e]
  have RES1 : Hid (chunk xs k ≠ 0 → chRes (some ⟨b, off, none⟩) xs k = .tuple #[cv (uS (xs.getD k 0)) (uF (xs.getD k 0)) (uC (xs.getD k 0)) (uH (xs.getD k 0)) (uP (xs.getD k 0)) (uM (xs.getD k 0)) (piece (some ⟨b, off, none⟩) k (chunk xs k).toNat), .bool true]) := fun e => by unfold chRes; rw [if_neg e]
  have N2 := sbOf_two xs k (uS (xs.getD k 0)) (uF (xs.getD k 0))
  have CH0 : (ok (xs.getD k 0) && !uM (xs.getD k 0)) = false → chunk xs k = 0 := fun e => by unfold chunk; rw [if_neg (by rw [e]; simp)]
  generalize chRes (some ⟨b, off, none⟩) xs k = R at *
  generalize ho : (ok (xs.getD k 0) && !uM (xs.getD k 0)) = o at *
  have HCY : Hid (∀ j, k + j < xs.length → w.cell? ⟨b, off + k + j, none⟩ = some (.int .i64 (xs.getD (k + j) 0))) := fun j hj => by rw [Nat.add_assoc]; exact hcc _ hj
  have HYI : Hid (∀ j, k + j < xs.length → I64 (xs.getD (k + j) 0)) := fun j hj => allI_at ha hj
  clear hc hcc hnil
  generalize sbOf xs k (uS (xs.getD k 0)) (uF (xs.getD k 0)) = n at *
  generalize uS (xs.getD k 0) = s at *
  generalize uF (xs.getD k 0) = f at *
  generalize uC (xs.getD k 0) = c at *
  generalize uH (xs.getD k 0) = g at *
  generalize uP (xs.getD k 0) = p at *
  generalize uM (xs.getD k 0) = m at *
  generalize hch : chunk xs k = ch at *
  have HBY : Hid _ := BY
  have HCH : Hid _ := CH0
  clear ho BY CH0 hch
  go_enter Tryz.func88, Tryz.ntmps88
  go_wp2_with fail
  generalize (w.alloc (Obj.cells #[.int .i64 0, .int .i64 0, .int .i64 0, .int .i64 0, .bool false, .bool false, .slice none 0 0] 77)) = X at *
  refine RD.mono ?_
  rintro e w1 ⟨rfl, b1⟩
  have s1 := b1.size
  have T1 := chAt_alloc (chAt_below T0 b1) (hb s f c g p m)
  have B1 := (B0.trans (b1.mono (by omega))).alloc (by omega) (hb s f c g p m)
  have N1 := headAt_new w1 s f c g p m
  have S1 : w1.heap.size + 1 ≤ (w1.alloc (hb s f c g p m)).heap.size := by simp
  clear b1 RD T0 B0
  cases o
  · obtain ⟨t0, t1, t2, t3, t4, t5, t6, tf⟩ := chAt_cells T1
    have f0 := tf 0; have f1 := tf 1; have f2 := tf 2; have f3 := tf 3; have f4 := tf 4; have f5 := tf 5; have f6 := tf 6
    have T2 : Hid _ := seven_set T1 0 0 0 0 false false (.slice none 0 0)
    have B2 : Hid _ := seven_below B1 (Nat.le_refl _) 0 0 0 0 false false (.slice none 0 0)
    have ER : Hid _ := RES0.out (HCH.out rfl)
    clear B1 tf T1 HCH HBY RES0 RES1
    go_wp2
    refine bodyPost_ret (v := noChunk) (res_chunk_one rfl rfl rfl T2) rfl ⟨?_, B2⟩
    rw [ER.out]
  · have HBY2 : Hid _ := HBY.out rfl
    clear HBY
    obtain ⟨n0, n1, n2, n3, n4, n5, nf⟩ := headAt_cells N1
    go_wp2_with fail
    generalize hY : w1.alloc (Obj.cells #[.int .i64 s, .int .i64 f, .int .i64 c, .int .i64 g, .bool p, .bool m] 62) = Y at *
    clear hY n0 n1 n2 n3 n4 n5 nf
    refine (SB _ B1).mono ?_
    clear SB
    rintro e w2 ⟨rfl, b2⟩
    have s2 := b2.size
    have T2 := chAt_below (show ChAt Y w.heap.size 0 0 0 0 false false (.slice none 0 0) from T1) b2
    have N2' := headAt_below (show HeadAt Y w1.heap.size s f c g p m from N1) b2
    have B2 := B1.trans (b2.mono (by omega))
    clear b2 B1 T1 N1
    go_wp2_with fail
    cases dc : cutOk xs.length k n
    · have E0 : ch = 0 := by rw [HBY2.out, dc]; simp
      have ER : Hid _ := RES0.out E0
      clear HBY2 HCH RES0 RES1 E0
      refine (cut_no hlc hcm k n ⟨by omega, by omega⟩ NI dc).mono ?_
      rintro e w3 ⟨rfl, hw3⟩
      rw [hw3]
      clear hw3 w3
      obtain ⟨t0, t1, t2, t3, t4, t5, t6, tf⟩ := chAt_cells T2
      have f0 := tf 0; have f1 := tf 1; have f2 := tf 2; have f3 := tf 3; have f4 := tf 4; have f5 := tf 5; have f6 := tf 6
      have T3 : Hid _ := seven_set T2 0 0 0 0 false false (.slice none 0 0)
      have B3 : Hid _ := seven_below B2 (Nat.le_refl _) 0 0 0 0 false false (.slice none 0 0)
      clear B2 tf T2
      go_wp2
      refine bodyPost_ret (v := noChunk) (res_chunk_one rfl rfl rfl T3) rfl ⟨?_, B3⟩
      rw [ER.out]
    · obtain ⟨c1, c2, c3⟩ := cutOk_true dc
      obtain ⟨N, rfl⟩ := Int.eq_ofNat_of_zero_le c2
      refine (cut_yes hlc hcm k N (by omega)).mono ?_
      rintro e w3 ⟨rfl, hw3⟩
      rw [hw3]
      clear hw3 w3
      by_cases hN : N = 0
      · subst hN
        have E0 : ch = 0 := by rw [HBY2.out]; simp
        have ER : Hid _ := RES0.out E0
        clear HBY2 HCH RES0 RES1 E0
        rw [piece_none]
        obtain ⟨t0, t1, t2, t3, t4, t5, t6, tf⟩ := chAt_cells T2
        have f0 := tf 0; have f1 := tf 1; have f2 := tf 2; have f3 := tf 3; have f4 := tf 4; have f5 := tf 5; have f6 := tf 6
        have T3 : Hid _ := seven_set T2 0 0 0 0 false false (.slice none 0 0)
        have B3 : Hid _ := seven_below B2 (Nat.le_refl _) 0 0 0 0 false false (.slice none 0 0)
        clear B2 tf T2
        go_wp2
        refine bodyPost_ret (v := noChunk) (res_chunk_one rfl rfl rfl T3) rfl ⟨?_, B3⟩
        rw [ER.out]
      · have hN2 : 2 ≤ N := by omega
        rw [piece_at b off k N (by omega)]
        obtain ⟨n0, n1, n2, n3, n4, n5, nf⟩ := headAt_cells N2'
        clear nf
        have hU : ∀ W : World, Below w.heap.size w W → W.cell? ⟨b, off + k + 1, none⟩ = some (.int .i64 (xs.getD (k + 1) 0)) := fun W hW => (hW.cell (p := ⟨b, off + k + 1, none⟩) hblk).trans (HCY.out 1 (by omega))
        have hyI := HYI.out 1 (by omega)
        have RES2 : Hid (ch = (N : Int) → R = .tuple #[cv s f c g p m (.slice (some ⟨b, off + k, none⟩) N N), .bool true]) := fun e => by
          rw [RES1.out (by omega), e, Int.toNat_natCast, piece_at b off k N (by omega)]
        generalize xs.getD (k + 1) 0 = y at *
        have HU : Hid _ := hU
        clear hU RES1 HCY HYI
        go_wp2_with fail
        refine (isNote_any s f c g p m _ _).mono ?_
        rintro e w4 ⟨rfl, hw4⟩
        have T4 := chAt_alloc (chAt_alloc T2 (cb s f c g p m (.slice (some ⟨b, off + k, none⟩) N N))) (cb s f c g p m (.slice (some ⟨b, off + k, none⟩) N N))
        have M4 := chAt_alloc (chAt_new w2 s f c g p m (.slice (some ⟨b, off + k, none⟩) N N)) (cb s f c g p m (.slice (some ⟨b, off + k, none⟩) N N))
        have B4 := (B2.alloc (by omega) (cb s f c g p m (.slice (some ⟨b, off + k, none⟩) N N))).alloc (by simp; omega) (cb s f c g p m (.slice (some ⟨b, off + k, none⟩) N N))
        rw [← hw4] at T4 M4 B4
        clear hw4 T2 N2' B2 n0 n1 n2 n3 n4 n5
        have cy := HU.out _ B4
        clear HU
        obtain ⟨t0, t1, t2, t3, t4, t5, t6, tf⟩ := chAt_cells T4
        have f0 := tf 0; have f1 := tf 1; have f2 := tf 2; have f3 := tf 3; have f4 := tf 4; have f5 := tf 5; have f6 := tf 6
        obtain ⟨m0, m1, m2, m3, m4, m5, m6, mf⟩ := chAt_cells M4
        have T5 : Hid _ := seven_set T4 0 0 0 0 false false (.slice none 0 0)
        have B5 : Hid _ := seven_below B4 (Nat.le_refl _) 0 0 0 0 false false (.slice none 0 0)
        have T6 : Hid _ := seven_set T4 s f c g p m (.slice (some ⟨b, off + k, none⟩) N N)
        have B6 : Hid _ := seven_below B4 (Nat.le_refl _) s f c g p m (.slice (some ⟨b, off + k, none⟩) N N)
        clear tf mf T4 M4 B4
        by_cases h7 : f = 7
        · subst h7
          cases dA : isA y
          · have ER : Hid _ := RES0.out (show ch = 0 by rw [HBY2.out, if_neg]; rintro ⟨_, _, h3⟩; exact absurd (h3 rfl) (by simp [dA]))
            clear RES0 RES2 HBY2 HCH T6 B6
            go_wp2_with (go_at_call 94; refine (isAddr_any _ _ hyI.1 hyI.2).mono ?_; rintro e w5 ⟨rfl, rfl⟩)
            refine bodyPost_ret (v := noChunk) (res_chunk_one rfl rfl rfl T5) rfl ⟨?_, B5⟩
            rw [ER.out]
          · have ER : Hid _ := RES2.out (show ch = (N : Int) by rw [HBY2.out, if_pos]; exact ⟨dc, by omega, fun _ => dA⟩)
            clear RES0 RES2 HBY2 HCH T5 B5
            go_wp2_with (go_at_call 94; refine (isAddr_any _ _ hyI.1 hyI.2).mono ?_; rintro e w5 ⟨rfl, rfl⟩)
            refine bodyPost_ret (v := .tuple #[cv s 7 c g p m (.slice (some ⟨b, off + k, none⟩) N N), .bool true]) (res_chunk_one rfl rfl rfl T6) rfl ⟨?_, B6⟩
            rw [ER.out]
        · have h7' : (f == 7) = false := by simp [h7]
          have ER : Hid _ := RES2.out (show ch = (N : Int) by rw [HBY2.out, if_pos]; exact ⟨dc, by omega, fun h => absurd h h7⟩)
          clear RES0 RES2 HBY2 HCH T5 B5
          go_wp2
          refine bodyPost_ret (v := .tuple #[cv s f c g p m (.slice (some ⟨b, off + k, none⟩) N N), .bool true]) (res_chunk_one rfl rfl rfl T6) rfl ⟨?_, B6⟩
          rw [ER.out]

theorem chunkAt_in {xs : List Int} {k : Nat} (d : okAt xs k = true) : chunkAt xs k = chunk xs k := by unfold chunkAt; rw [if_pos d]; rfl
theorem chunk_nat (xs : List Int) (k : Nat) : ((chunk xs k).toNat : Int) = chunk xs k := Int.toNat_of_nonneg (chunk_le xs k).1

end Go.Proofs.YtacilbilnbmcbaaGreat.walks
