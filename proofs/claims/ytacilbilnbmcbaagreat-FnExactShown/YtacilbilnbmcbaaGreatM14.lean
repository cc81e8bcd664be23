/-
  A number put into a list of numbers and taken out of one: slices.Insert, slices.Delete. A number put into a list of numbers of the call's own, whatever room there is: slices.Insert.
-/
import Derived.Test.YtacilbilnbmcbaaGreatM2
import Derived.Test.YtacilbilnbmcbaaGreatM5
import Derived.Laws.AppendOwnNone
import Derived.Maps.AppendAt
import Derived.Lib.AppendZerosOnto
import Derived.Deep.RegionLaw
import Derived.Lib.Overlaps
namespace Go.Proofs.YtacilbilnbmcbaaGreat.hp
open Go.RowKit rows
set_option linter.unusedVariables false
set_option linter.unusedSimpArgs false

theorem cellsI_length (xs : List Int) : (cellsOf xs).length = xs.length := by simp
theorem cellsI_append (xs ys : List Int) : cellsOf (xs ++ ys) = cellsOf xs ++ cellsOf ys := by simp [cellsOf]
theorem cellsI_one (xs : List Int) : ∀ v ∈ cellsOf xs, v.oneCell' = true := ints_oneCell .i64 xs
theorem zeroI (w : World) : (zeroValue 2).run Tryz.prog w = .ok (.int .i64 0) w := by kernel_rfl
/-- 'append(row, list...)' onto a row of the call's own. -/
theorem wpList_appIE {w : World} {base : Nat} {ops : Array Oper} {rest : List Oper} {o : Oper} {act : Act} {Q : Exit → Act → World → Prop} {a : Option Addr} {cap g n c : Nat} {es fs : List Int}
    (hbs : base ≤ w.heap.size) (hown : w.ownsRow base 2 1 (.slice (some ⟨g, 0, none⟩) n c) n (cellsOf es)) (h : IntsAt w (.slice a fs.length cap) fs) (hl : n + fs.length ≤ 1048576)
    (hgd : o.guard = none) (s x : Operand) (ho : o.op = .call { callee := .builtin .append, args := #[s, x], argTypes := #[22, 22] })
    (hs : act.eval s = .slice (some ⟨g, 0, none⟩) n c) (hx : act.eval x = .slice a fs.length cap)
    (hK : ∀ g' c' w1, w1.ownsRow base 2 1 (.slice (some ⟨g', 0, none⟩) (n + fs.length) c') (n + fs.length) (cellsOf (es ++ fs)) → Ch [g] w w1 → (g' = g ∨ w.heap.size ≤ g') → wpList Tryz.prog ops Q rest (act.put o.dst (.slice (some ⟨g', 0, none⟩) (n + fs.length) c')) w1) :
    wpList Tryz.prog ops Q (o :: rest) act w := by
  obtain ⟨i0, hi, hz0, hz1, hz2⟩ := info_parts info
  have h' := h
  obtain ⟨a', cap', e, hlc, hcm, hnil, _⟩ := h
  injection e with e1 e2 e3
  subst e1 e3
  cases a with
  | none =>
    have hcap := hnil rfl
    have e : fs = [] := List.eq_nil_of_length_eq_zero (by omega)
    subst e hcap
    refine wpList_append_own_none hgd s x 22 ho _ 2 i0 1 Tryz.underlying22 hi _ n (cellsOf es) hs hown hx ?_
    exact hK g c w (by simpa using hown) (Ch.refl _ _) (.inl rfl)
  | some ad =>
    refine wpList_append_own_at _ hgd s x 22 ho _ 2 i0 (.int .i64 0) 1 8 Tryz.underlying22 hi hz0 hz1 hz2 rfl (by decide) _ n (cellsOf es) hs hown ad fs.length cap (cellsOf fs) hx (by simp) (ints_news h') (cellsI_one fs) (by unfold maxLen; omega) (by omega) hbs ?_
    intro v' w1 hown' hgrow hnn hat
    have hown2 := hown'
    obtain ⟨_, ⟨h1, _⟩ | ⟨g', c', cur, h1, hg, hh, hle, hm, hsz, ht⟩⟩ := hown'
    · exact absurd (hnn.1 h1).1 (by simp)
    · subst h1
      refine hK g' c' w1 (by rw [cellsI_append]; exact hown2) (by simpa [blk, Value.ownBlock] using ch_grown hgrow) ?_
      rcases hat with hat | hat
      · exact .inl (by simpa [Value.ownBlock] using hat)
      · exact .inr (Nat.le_of_eq (by simpa [Value.ownBlock] using hat.symm))
/-- The same, where the length is written otherwise. -/
theorem wpList_appIN {w : World} {base : Nat} {ops : Array Oper} {rest : List Oper} {o : Oper} {act : Act} {Q : Exit → Act → World → Prop} {a : Option Addr} {cap g n c m : Nat} {es fs : List Int} (hm : fs.length = m)
    (hbs : base ≤ w.heap.size) (hown : w.ownsRow base 2 1 (.slice (some ⟨g, 0, none⟩) n c) n (cellsOf es)) (h : IntsAt w (.slice a m cap) fs) (hl : n + m ≤ 1048576)
    (hgd : o.guard = none) (s x : Operand) (ho : o.op = .call { callee := .builtin .append, args := #[s, x], argTypes := #[22, 22] })
    (hs : act.eval s = .slice (some ⟨g, 0, none⟩) n c) (hx : act.eval x = .slice a m cap)
    (hK : ∀ g' c' w1, w1.ownsRow base 2 1 (.slice (some ⟨g', 0, none⟩) (n + m) c') (n + m) (cellsOf (es ++ fs)) → Ch [g] w w1 → (g' = g ∨ w.heap.size ≤ g') → wpList Tryz.prog ops Q rest (act.put o.dst (.slice (some ⟨g', 0, none⟩) (n + m) c')) w1) :
    wpList Tryz.prog ops Q (o :: rest) act w := by
  subst hm
  exact wpList_appIE hbs hown h hl hgd s x ho hs hx hK
/-- What is cut off a list from k on, and up to k. -/
theorem intsG_from {w : World} {g len cap k : Nat} {es : List Int} (h : IntsAt w (.slice (some ⟨g, 0, none⟩) len cap) es) (hl : es.length = len) (hk : k ≤ len) (ad : Option Addr) (had : ad = some ⟨g, 0, none⟩ ∧ k = len ∨ ad = some ⟨g, k, none⟩) : IntsAt w (.slice ad (len - k) (cap - k)) (es.drop k) := by
  subst hl
  obtain ⟨a', cap', e, hlc, hcm, _, hc⟩ := h
  injection e with e1 e2 e3
  subst e3
  refine ⟨ad, cap - k, by rw [List.length_drop], by rw [List.length_drop]; omega, by omega, (fun hn => by rcases had with ⟨h1, _⟩ | h1 <;> rw [h1] at hn <;> cases hn), fun hp => ?_⟩
  rw [List.length_drop] at hp
  obtain ⟨b, off, hbo, hbl, hcc⟩ := hc (by omega)
  rw [← e1] at hbo
  injection hbo with hbo
  injection hbo with hb1 hb2
  subst hb1 hb2
  rcases had with ⟨_, h1⟩ | h1
  · omega
  · refine ⟨g, k, h1, hbl, fun i hi => ?_⟩
    rw [List.length_drop] at hi
    have := hcc (k + i) (by omega)
    rw [show 0 + (k + i) = k + i by omega] at this
    simpa [List.getD_eq_getElem?_getD] using this
theorem intsG_upto {w : World} {g len cap k : Nat} {es : List Int} (h : IntsAt w (.slice (some ⟨g, 0, none⟩) len cap) es) (hl : es.length = len) (hk : k ≤ len) : IntsAt w (.slice (some ⟨g, 0, none⟩) k cap) (es.take k) := by
  subst hl
  obtain ⟨a', cap', e, hlc, hcm, _, hc⟩ := h
  injection e with e1 e2 e3
  subst e3
  have el : (es.take k).length = k := by rw [List.length_take]; omega
  refine ⟨_, cap, by rw [el], by omega, hcm, (fun hn => by cases hn), fun hp => ?_⟩
  obtain ⟨b, off, hbo, hbl, hcc⟩ := hc (by omega)
  rw [← e1] at hbo
  refine ⟨b, off, hbo, hbl, fun i hi => ?_⟩
  have := hcc i (by omega)
  have hik : i < k := by omega
  simpa [List.getD_eq_getElem?_getD, hik] using this
/-- 'append(list[:i], make([]Entry, k)...)' where the list has no room: a new row. -/
theorem wpList_zerosI {w : World} {ops : Array Oper} {rest : List Oper} {o : Oper} {act : Act} {Q : Exit → Act → World → Prop} {g n i k m : Nat} {es : List Int}
    (hgd : o.guard = none) (s x : Operand) (ho : o.op = .call { callee := .builtin .append, args := #[s, x], argTypes := #[22, 3] }) (k' : Int)
    (hs : act.eval s = .slice (some ⟨g, 0, none⟩) i n) (hx : act.eval x = .int .i64 k') (hk : k' = (k : Int)) (F : Full w g es) (hn : es.length = n) (hi : i ≤ n) (h40 : n ≤ 1048576) (h0 : 0 < k) (hg : n < i + k) (hk2 : k ≤ 1048576) (hm : i + k = m)
    (hK : ∀ (w1 : World) (L : List Value) (cap : Nat), Hid (w1.heap[w.heap.size]? = some (.cells L.toArray 2 (0, 0))) → Hid (L.take (i) = cellsOf (es.take i)) → L.length = cap → m ≤ cap → cap ≤ 9223372036854775807 → Hid (Below w.heap.size w w1) → wpList Tryz.prog ops Q rest (act.put o.dst (.slice (some ⟨w.heap.size, 0, none⟩) m cap)) w1) :
    wpList Tryz.prog ops Q (o :: rest) act w := by
  obtain ⟨i0, hi0, hz0, hz1, hz2⟩ := info_parts info
  subst hk hn hm
  have O := intsG_upto (k := i) (own_ints (full_own (base := 0) F (Nat.zero_le _) (by unfold maxLen; omega))) rfl hi
  have el : (es.take i).length = i := by rw [List.length_take]; omega
  have hold : (Builtin.firstCells i0.size i (.slice (some ⟨g, 0, none⟩) i es.length)).run Tryz.prog w.drew = .ok (cellsOf (es.take i)).toArray w.drew := by
    rw [hz1]
    exact run_firstCells_some w.drew 1 i ⟨g, 0, none⟩ i es.length (cellsOf (es.take i)) (by rw [cellsI_length, el, Nat.mul_one]) (ints_news (n := i) (cap := es.length) O)
  have hr := Lib.run_append_grow_zeros w 22 3 o.type 2 i0 (.int .i64 0) .i64 .i64 Tryz.underlying22 Tryz.underlying3 hi0 hz0 (some ⟨g, 0, none⟩) i es.length (cellsOf (es.take i)) hold k h0 (by omega) hg (by omega) (by rw [hz2]; omega) (by rw [hz2]; exact growslice_fits hg (by omega))
  have hge := grownCap_ge w (i + k) es.length 2
  have hcm : grownCap w (i + k) es.length 2 ≤ maxLen := grownCap_le_maxLen w (i + k) es.length 2 (by unfold maxLen; omega)
  refine wpList_plain hgd fun K hK' => ?_
  unfold Oper.wp
  simp [execOp, ho, resolve, invoke, builtin, hs, hx, hr, Result.andThen]
  refine hK' _ _ ?_
  generalize grownCap w (i + k) es.length 2 = cap at *
  refine hK _ ((cellsOf (es.take i)).toArray ++ (Builtin.zeroCells (Value.int .i64 0).cells k ++ Builtin.zeroCells (Value.int .i64 0).cells (cap - (i + k)))).toList cap (by show _ = _; rw [Array.toArray_toList]; simp only [cellsOf, List.map_take]; exact heap_alloc_new w.drew _) ?_ ?_ hge hcm ?_
  · show List.take _ _ = _
    simp only [Array.toList_append]
    exact List.take_left' (by simp; omega)
  · simp [Builtin.zeroCells, Value.cells, cellsI_length, el]
    omega
  · exact ⟨rfl, rfl, rfl, by simp, fun j hj => Below.heap_alloc w.drew _ j hj⟩
theorem splice_atI {L : List Value} {off : Nat} {X Y : List Value} (h : L.take off = X) (hf : off + Y.length ≤ L.length) : (splice L off Y).take (off + Y.length) = X ++ Y := by
  unfold splice
  rw [h, ← List.append_assoc]
  exact List.take_left' (by rw [← h]; simp; omega)
/-- append within the capacity, as one step of a region that draws its order. -/
theorem step_append_fitsI {P : Program} {ops : Array Oper} {o : Oper} {a : Act} {w : World} {K : Act → World → Prop} {Q : Exit → Act → World → Prop} {E : Prop} (hgd : o.guard = none) (s x : Operand) (t : TypeId)
    (ho : o.op = Op.call { callee := Callee.builtin Builtin.append, args := #[s, x], argTypes := #[t, t] })
    (base : Nat) (e : TypeId) (i : TypeInfo) (size : Nat) (h1 : P.underlying t = some (.slice e)) (h2 : P.info? e = some i) (h4 : i.size = size)
    (g k cap : Nat) (xs : List Value) (hs : a.eval s = .slice (some ⟨g, 0, none⟩) k cap) (hown : w.ownsRow base e size (.slice (some ⟨g, 0, none⟩) k cap) k xs) (ad : Addr) (m c : Nat) (news : List Value) (hx : a.eval x = .slice (some ad) m c) (hn : news.length = m * size)
    (hc : ∀ j u, news[j]? = some u → w.cell? (ad.add j) = some u) (h1c : ∀ u ∈ news, u.oneCell' = true) (b1 : k + m ≤ cap) (q : Nat) (hq : k + m = q)
    (hK : ∀ w', w'.ownsRow base e size (.slice (some ⟨g, 0, none⟩) q cap) q (xs ++ news) → w.grownBy w' (some g) → K (a.put o.dst (.slice (some ⟨g, 0, none⟩) q cap)) w') :
    if Region.wanted o (yielded ops a.tmps) = true then Oper.wp P o a w K Q else E := by
  subst hq
  have hw : Region.wanted o (yielded ops a.tmps) = true := by simp [Region.wanted, hgd]
  rw [if_pos hw]
  obtain ⟨w', hrun, r1, r2⟩ := run_append_fits (P := P) w base t o.type e i size h1 h2 h4 g k cap xs hown ad m c news hn hc h1c b1
  unfold Oper.wp
  simp [execOp, ho, resolve, invoke, builtin, hs, hx, hrun, Result.andThen]
  exact hK w' r1 r2
/-- 'clear' on the last n entries of an own row. -/
theorem wpList_clearI {w : World} {base : Nat} {ops : Array Oper} {rest : List Oper} {o : Oper} {act : Act} {Q : Exit → Act → World → Prop} {g k n cap c : Nat} {es : List Int}
    (hgd : o.guard = none) (s : Operand) (ho : o.op = .call { callee := .builtin .clear, args := #[s], argTypes := #[22] })
    (hs : act.eval s = .slice (some ⟨g, k, none⟩) n c) (hown : w.ownsRow base 2 1 (.slice (some ⟨g, 0, none⟩) k cap) k (cellsOf es)) (hkn : k + n ≤ cap)
    (hK : ∀ w', w'.ownsRow base 2 1 (.slice (some ⟨g, 0, none⟩) k cap) k (cellsOf es) → Ch [g] w w' → wpList Tryz.prog ops Q rest (act.put o.dst (.tuple #[])) w') :
    wpList Tryz.prog ops Q (o :: rest) act w := by
  obtain ⟨h0, ⟨h1, _⟩ | ⟨g', cap', cur, h1, hg, hh, hle, hm, hsz, ht⟩⟩ := hown
  · cases h1
  injection h1 with e1 e2 e3
  injection e1 with e1
  injection e1 with e1
  subst e1 e3
  refine wpList_plain hgd fun K hK' => ?_
  obtain ⟨w', hrun, r1, r2, r3⟩ := copyk.run_clear_k (P := Tryz.prog) w 22 2 o.type (.int .i64 0) 1 Tryz.underlying22 zeroI (some ⟨g, k, none⟩) n c g (k) cur.toList 2 (by simpa using hh) (fun _ => rfl) (by simp [Builtin.zeroCells, Value.cells]) (by
    intro v hv
    simp only [Builtin.zeroCells, Value.cells] at hv
    simp at hv
    obtain ⟨j, hj, rfl⟩ := hv
    rw [Nat.mod_one]; rfl) (by simp [hsz]; omega)
  unfold Oper.wp
  simp [execOp, ho, resolve, invoke, builtin, hs, hrun, Result.andThen]
  have r4 := r3 (Below.refl g w) (Nat.le_refl _)
  refine hK' _ _ (hK w' ⟨h0, .inr ⟨g, cap, _, rfl, hg, r1, hle, hm, ?_, ?_⟩⟩ ⟨r4.os, r4.tape, r4.output, r4.size, fun k _ hn => r2 k (fun e => hn (by simp [e]))⟩)
  · split
    · simpa using hsz
    · rw [List.size_toArray, length_splice _ _ _ (by simp [Builtin.zeroCells, Value.cells, hsz]; omega)]
      simpa using hsz
  · split
    · simpa using ht
    · rw [← ht]
      rw [Nat.mul_one]
      unfold splice
      exact List.take_left' (by simp [hsz]; omega)
end Go.Proofs.YtacilbilnbmcbaaGreat.hp
namespace Go.Proofs.YtacilbilnbmcbaaGreat.hp
open Go.RowKit rows
set_option linter.unusedVariables false
set_option linter.unusedSimpArgs false

/-- 'append(row, x)' onto a row of the call's own, nil or not. -/
theorem wpList_appG {w : World} {base : Nat} {ops : Array Oper} {rest : List Oper} {o : Oper} {act : Act} {Q : Exit → Act → World → Prop} {v : Value} {vb n : Nat} {es : List Int} {x : Int}
    (hbs : base ≤ w.heap.size) (hown : w.ownsRow base 2 1 v n (cellsOf es)) (h : w.heap[vb]? = some (.cells #[.int .i64 x] 2 (0, 0))) (hl : n ≤ 1048576)
    (hgd : o.guard = none) (s y : Operand) (ho : o.op = .call { callee := .builtin .append, args := #[s, y], argTypes := #[22, 22] })
    (hs : act.eval s = v) (hy : act.eval y = .slice (some ⟨vb, 0, none⟩) 1 1)
    (hK : ∀ a' c' w1, w1.ownsRow base 2 1 (.slice a' (n + 1) c') (n + 1) (cellsOf (es ++ [x])) → Ch (blk v) w w1 → (∀ k ∈ blk (.slice a' (n + 1) c'), k ∈ blk v ∨ w.heap.size ≤ k) → wpList Tryz.prog ops Q rest (act.put o.dst (.slice a' (n + 1) c')) w1) :
    wpList Tryz.prog ops Q (o :: rest) act w := by
  obtain ⟨i0, hi, hz0, hz1, hz2⟩ := info_parts info
  have F : Full w vb [x] := h
  refine wpList_append_own_at _ hgd s y 22 ho _ 2 i0 (.int .i64 0) 1 8 Tryz.underlying22 hi hz0 hz1 hz2 rfl (by decide) v n (cellsOf es) hs hown ⟨vb, 0, none⟩ 1 1 (cellsOf [x]) hy (by simp) (ints_news (own_ints (full_own (base := 0) F (Nat.zero_le _) (show 1 ≤ maxLen by decide)))) (cellsI_one [x]) (by unfold maxLen; omega) (by omega) hbs ?_
  intro v' w1 hown' hgrow _ hat
  obtain ⟨a', c', rfl⟩ : ∃ a c, v' = .slice a (n + 1) c := by
    obtain ⟨_, ⟨h1, h2⟩ | ⟨g', c', cur, h1, _⟩⟩ := hown'
    · omega
    · exact ⟨_, _, h1⟩
  refine hK a' c' w1 (by rw [cellsI_append]; exact hown') (ch_grown hgrow) (fun k hk => ?_)
  unfold blk at hk ⊢
  rcases hat with e | e
  · rw [e] at hk; exact .inl hk
  · rw [e] at hk; simp at hk; exact .inr (by omega)
theorem splice_shift {L : List Value} {es : List Int} {i : Nat} {x : Int} (hL : es.length + 1 ≤ L.length) (hT : L.take es.length = cellsOf es) (hi : i < es.length) :
    (splice (splice L (i + 1) (cellsOf (es.drop i))) i (cellsOf [x])).take (es.length + 1) = cellsOf (es.take i ++ [x] ++ es.drop i) := by
  have e1 : (cellsOf (es.drop i)).length = es.length - i := by simp
  have e2 : L.take i = cellsOf (es.take i) := by
    have : L.take i = (L.take es.length).take i := by rw [List.take_take, Nat.min_eq_left (by omega)]
    rw [this, hT]; simp [cellsOf, List.map_take]
  have e3 : (L.take (i + 1)).length = i + 1 := by rw [List.length_take]; omega
  generalize hY : cellsOf (es.drop i) = Y at *
  have e4 : (splice L (i + 1) Y).take i = L.take i := by
    unfold splice
    rw [List.take_append_of_le_length (by omega), List.take_take, Nat.min_eq_left (by omega)]
  have e5 : (splice L (i + 1) Y).drop (i + 1) = Y ++ L.drop (i + 1 + Y.length) := by
    unfold splice
    rw [List.drop_append_of_le_length (by omega), List.drop_eq_nil_of_le (by omega), List.nil_append]
  rw [show splice (splice L (i + 1) Y) i (cellsOf [x]) = (splice L (i + 1) Y).take i ++ (cellsOf [x] ++ (splice L (i + 1) Y).drop (i + (cellsOf [x]).length)) from rfl, show i + (cellsOf [x]).length = i + 1 by simp [cellsOf], e4, e5, e2, ← List.append_assoc, ← List.append_assoc, cellsI_append, cellsI_append, hY]
  exact List.take_left' (by simp [e1]; omega)
end Go.Proofs.YtacilbilnbmcbaaGreat.hp
