/-
  Chapter 8 as the specification has it: the places of free chunks. What may change while a drawn region with a store is run: nothing of what there was but one block, which once it is as wanted stays so. Chapter 8 as the specification has it: free chunks made one. Chapter 8 as the specification has it: a free chunk written, free chunks joined, and nothing but the row's block is changed. A number put into a list of numbers and taken out of one: slices.Insert, slices.Delete. A number put into a list of numbers of the call's own, whatever room there is: slices.Insert. Chapter 15 as the specification has it: a word where what lay at a place lies at another one. slices.Concat of lists of numbers, however many.
-/
import Derived.Test.YthfhjgkpabkeaaaGreatM6
import Derived.Test.YthfhjgkpabkeaaaGreatM1
import Derived.Maps.AppendAt
import Derived.Test.YthfhjgkpabkeaaaGreatM5
import Derived.Test.YthfhjgkpabkeaaaGreatM2
import Derived.Test.YthfhjgkpabkeaaaGreatM4
import Derived.Laws.AppendOwnNone
import Derived.Lib.AppendZerosOnto
import Derived.Deep.RegionLaw
import Derived.Lib.Overlaps
import Derived.Test.YthfhjgkpabkeaaaGreatWordsAll
import Derived.Test.YthfhjgkpabkeaaaGreatWalkS
namespace Go.Proofs.YthfhjgkpabkeaaaGreat.walks
open Go.RowKit rows heads words
set_option maxRecDepth 100000

theorem grown_join {a b c : World} {r : Option Nat} (h : a.grownBy b r) (k : b.grownBy c r) : a.grownBy c r :=
  ⟨k.os.trans h.os, k.tape.trans h.tape, k.output.trans h.output, Nat.le_trans h.size k.size, fun j hj hn => (k.block j (Nat.lt_of_lt_of_le hj h.size) hn).trans (h.block j hj hn)⟩
theorem app_int {w w1 : World} {base : Nat} {v v' : Value} {o : Obj} {xs : List Int} {x : Int} (hown : w1.ownsRow base 2 1 v' (xs.length + 1) (cellsOf xs ++ [.int .i64 x])) (hgrow : (w.alloc o).grownBy w1 v.ownBlock) (hat : v'.ownBlock = v.ownBlock ∨ v'.ownBlock = some (w.alloc o).heap.size) :
    rows.Own w1 base v' (xs ++ [x]) ∧ w.grownBy w1 v.ownBlock ∧ ∀ k, v'.ownBlock = some k → v.ownBlock = some k ∨ w.heap.size < k :=
  ⟨own_snoc hown, grown_join (World.grownBy_alloc w o _) hgrow, fun k e => by
    rcases hat with h | h
    · exact .inl (h ▸ e)
    · right; rw [h] at e; injection e with e; simp at e; omega⟩
theorem one_int (w : World) (x : Int) : ∀ i u, [Value.int .i64 x][i]? = some u → (w.alloc (.cells #[.int .i64 x] 2)).cell? ((⟨w.heap.size, 0, none⟩ : Addr).add i) = some u := by
  intro j u hj
  match j, hj with
  | 0, hj => simp at hj; subst hj; simp [Addr.add]
theorem filter_next {L : List Int} {p : Int → Bool} {k : Nat} (hk : k < L.length) : (L.take (k + 1)).filter p = (L.take k).filter p ++ (if p (L.getD k 0) = true then [L.getD k 0] else []) := by
  rw [List.take_add_one, List.filter_append, List.getElem?_eq_getElem hk, List.getD_eq_getElem?_getD, List.getElem?_eq_getElem hk]
  simp only [Option.toList_some, Option.getD_some]
  congr 1
  cases h : p L[k] <;> simp [h]

set_option maxHeartbeats 4000000 in
theorem l8Free_any {w : World} {v : Value} {xs : List Int} (h : IntsAt w v xs) (hl : xs.length ≤ 1048576) (F T : Nat) (ht : T ≤ xs.length) :
    Calls Tryz.prog 97 #[v, .int .i64 F, .int .i64 T] w fun e w' => ∃ v', e = .returned v' ∧ rows.Own w' w.heap.size v' (((walkO xs F T).getD []).filter (isFreeAt xs)) ∧ Below w.heap.size w w' := by
  obtain ⟨i0, hi, hz0, hz1, hz2⟩ := info_parts info
  have HI : Hid _ := And.intro hi (And.intro hz0 (And.intro hz1 hz2))
  have B0 : Below w.heap.size w (w.alloc (.cells #[] 2)) := (Below.refl _ _).alloc (Nat.le_refl _) _
  have O0 := own_nothing w w.heap.size (Nat.le_refl _)
  have WK := l4Walk_any (intsAt_below h B0) hl F T ht
  have HM : ∀ x ∈ (walkO xs F T).getD [], ∃ j : Nat, x = j ∧ j < xs.length := fun x hx => by
    cases e : walkO xs F T with
    | none => rw [e] at hx; simp at hx
    | some l =>
      rw [e] at hx
      obtain ⟨j, a, _, c, _⟩ := walkL_mem xs T ht _ _ _ e x hx
      exact ⟨j, a, by omega⟩
  have hLl : ((walkO xs F T).getD []).length ≤ 1048576 := by
    cases e : walkO xs F T with
    | none => simp
    | some l => have := (walkL_length xs T (by omega) _ _ _ e).1; simp; omega
  obtain ⟨L, hLe⟩ : ∃ L, (walkO xs F T).getD [] = L := ⟨_, rfl⟩
  obtain ⟨isS, hSe⟩ : ∃ L, (walkO xs F T).isSome = L := ⟨_, rfl⟩
  rw [hLe] at HM hLl WK
  rw [hSe] at WK
  rw [hLe]
  have HM : Hid _ := HM
  clear hLe hSe
  have h' := h
  obtain ⟨a, cap, rfl, hlc, hcm, _, _⟩ := h
  have p0 : w.heap.size < (w.alloc (.cells #[] 2)).heap.size := by simp
  clear hi hz0 hz1 hz2
  go_enter Tryz.func97, Tryz.ntmps97
  go_wp2_with fail
  generalize hX : w.alloc (.cells #[] 2) = X at *
  clear hX
  refine WK.mono ?_
  rintro e w1 ⟨vl, rfl, OL, b1⟩
  have HOL : Hid _ := OL
  have HIL : Hid (In X.heap.size w1.heap.size vl) := own_in OL
  have HOO : Hid _ := own_below O0 b1
  have HB1 : Hid (Below w.heap.size w w1) := B0.trans (b1.mono B0.size)
  have s1 := b1.size
  have IL := own_ints OL
  obtain ⟨la, lcap, rfl, llc, lcm, _, _⟩ := IL
  clear WK OL b1 O0 B0
  go_wp2_with fail
  go_loopw [7, 10] (fun u i wr => ∃ (k : Nat) (u0 : Value), u0 = u ∧ k ≤ L.length ∧ i = .int .i64 (k : Int) ∧ rows.Own wr w.heap.size u0 ((L.take k).filter (isFreeAt xs)) ∧ (∀ b, u0.ownBlock = some b → b < X.heap.size ∨ w1.heap.size ≤ b) ∧ rows.Own wr X.heap.size (.slice la L.length lcap) L ∧ w1.heap.size ≤ wr.heap.size ∧ Below w.heap.size w wr) (fun _ i _ => L.length - (intOf i).toNat)
  case atStart => exact ⟨0, _, rfl, Nat.zero_le _, rfl, HOO.out, fun b e => by simp [Value.ownBlock] at e; omega, HOL.out, Nat.le_refl _, HB1.out⟩
  case round =>
    obtain ⟨k, u0, rfl, hk, rfl, hO, hbk, hL, hws, hB⟩ := hrel
    by_cases hlt : k < L.length
    · have hlt' : (k : Int) < (L.length : Int) := by omega
      obtain ⟨la', lcap', e', _, _, _, hcy⟩ := own_ints hL
      injection e' with e1 e2 e3
      subst e1 e3
      obtain ⟨lb, loff, rfl, _, hcy⟩ := hcy (by omega)
      have c0 := hcy k hlt
      have HFN : Hid _ := filter_next (p := isFreeAt xs) hlt
      obtain ⟨j, hj, hjl⟩ := HM.out (L.getD k 0) (by rw [List.getD_eq_getElem?_getD, List.getElem?_eq_getElem hlt]; exact List.getElem_mem hlt)
      have hfr : isFreeAt xs (L.getD k 0) = (uF (xs.getD j 0) == 6) := by rw [hj]; rfl
      rw [hfr] at HFN
      rw [hj] at c0 HFN
      have LH := l4Head_any (intsAt_below h' hB) j hjl
      unfold hw at LH
      clear hfr hj hcy
      generalize uF (xs.getD j 0) = f at *
      generalize uS (xs.getD j 0) = s at *
      generalize uC (xs.getD j 0) = c1 at *
      generalize uH (xs.getD j 0) = g at *
      generalize uP (xs.getD j 0) = p at *
      generalize uM (xs.getD j 0) = m at *
      have FF := field_format s f c1 g p m
      have HO : Hid _ := hO
      have HL : Hid _ := hL
      have HB : Hid _ := hB
      have HBK : Hid _ := hbk
      clear hO hL hB hbk
      go_wp2_with fail
      refine LH.mono ?_
      rintro e w2 ⟨rfl, b2⟩
      have O2 := own_below HO.out b2
      have L2 := own_below HL.out b2
      have B2 := HB.out.trans (b2.mono HB.out.size)
      have sr := HB1.out.size
      have c2 := (b2.cell (p := ⟨lb, loff + k, none⟩) (World.block_lt_of_cell? _ _ c0)).trans c0
      have s2 := b2.size
      clear LH b2 c0
      by_cases h6 : f = 6
      · subst h6
        rw [show ((6 : Int) == 6) = true from rfl, if_pos rfl] at HFN
        generalize hqs : (L.take k).filter (isFreeAt xs) = qs at *
        have hql : qs.length ≤ 1048576 := by rw [← hqs]; exact Nat.le_trans (List.length_filter_le _ _) (by simp; omega)
        clear hqs
        obtain ⟨va, vcp, rfl, _, _, _, _⟩ := own_ints O2
        have HOA : Hid (rows.Own (w2.alloc (.cells #[.int .i64 (j : Int)] 2)) w.heap.size (.slice va qs.length vcp) qs) := World.ownsRow.alloc O2 _
        have hba : w.heap.size ≤ (w2.alloc (.cells #[.int .i64 (j : Int)] 2)).heap.size := by have := B2.size; simp; omega
        have HNW : Hid _ := one_int w2 (j : Int)
        have HSTEP : Hid (∀ (v' : Value) (w5 : World), w5.ownsRow w.heap.size 2 1 v' (qs.length + 1) (cellsOf qs ++ [.int .i64 (j : Int)]) → (w2.alloc (.cells #[.int .i64 (j : Int)] 2)).grownBy w5 (Value.slice va qs.length vcp).ownBlock → (v'.ownBlock = (Value.slice va qs.length vcp).ownBlock ∨ v'.ownBlock = some (w2.alloc (.cells #[.int .i64 (j : Int)] 2)).heap.size) → (∃ a n c, v' = .slice a n c) ∧ rows.Own w5 w.heap.size v' ((L.take (k + 1)).filter (isFreeAt xs)) ∧ (∀ b, v'.ownBlock = some b → b < X.heap.size ∨ w1.heap.size ≤ b) ∧ rows.Own w5 X.heap.size (.slice (some ⟨lb, loff, none⟩) L.length lcap) L ∧ w1.heap.size ≤ w5.heap.size ∧ Below w.heap.size w w5) := fun v' w5 h1 h2 h3 => by
          obtain ⟨on, gr, nb⟩ := app_int h1 h2 h3
          rw [HFN.out]
          obtain ⟨a', c', e', _⟩ := own_ints on
          refine ⟨⟨_, _, _, e'⟩, on, fun b hb => ?_, ?_, Nat.le_trans (Nat.le_trans hws s2) gr.size, below_grown B2 gr (own_lt O2) B2.size⟩
          · rcases nb b hb with e | e
            · exact HBK.out b e
            · right; omega
          · refine World.ownsRow.kept L2 gr ?_
            right
            intro e
            have q1 := HIL.out lb rfl
            have q2 := HBK.out lb (by rw [← e]; rfl)
            omega
        clear O2 L2 HO HL HBK HB HFN
        go_wp2_with (refine wpList_append_own_at _ rfl (.tmp 33) (.tmp 38) 22 rfl w.heap.size 2 i0 (.int .i64 0) 1 8 Tryz.underlying22 HI.out.1 HI.out.2.1 HI.out.2.2.1 HI.out.2.2.2 rfl (by decide) (.slice va qs.length vcp) qs.length (cellsOf qs) rfl HOA.out ⟨w2.heap.size, 0, none⟩ 1 1 [.int .i64 (j : Int)] rfl rfl HNW.out (by simp [Value.oneCell']) (by unfold maxLen; omega) (by omega) hba ?_; intro v' w5 hown hgrow _ hat; obtain ⟨⟨va', vn', vc', rfl⟩, st⟩ := HSTEP.out v' w5 hown hgrow hat; have HST : Hid _ := st; clear st hown hgrow hat)
        exact ⟨⟨k + 1, _, rfl, by omega, by go_num, HST.out⟩, by simp [intOf]; omega⟩
      · have h6' : (f == 6) = false := by simpa using h6
        rw [h6', if_neg (by simp), List.append_nil] at HFN
        have HST : Hid (rows.Own w2 w.heap.size u0 ((L.take (k + 1)).filter (isFreeAt xs)) ∧ (∀ b, u0.ownBlock = some b → b < X.heap.size ∨ w1.heap.size ≤ b) ∧ rows.Own w2 X.heap.size (.slice (some ⟨lb, loff, none⟩) L.length lcap) L ∧ w1.heap.size ≤ w2.heap.size ∧ Below w.heap.size w w2) := ⟨by rw [HFN.out]; exact O2, HBK.out, L2, Nat.le_trans hws s2, B2⟩
        clear O2 L2 HO HL HBK HB HFN B2
        go_wp2
        exact ⟨⟨k + 1, _, rfl, by omega, by go_num, HST.out⟩, by simp [intOf]; omega⟩
    · have e : k = L.length := by omega
      subst e
      rw [List.take_length] at hO
      have HF : Hid _ := hO
      have HB : Hid _ := hB
      have hlt' : ¬ (L.length : Int) < (L.length : Int) := by omega
      clear hO hB hbk hL
      go_wp2
      go_ret
      exact ⟨_, rfl, HF.out, HB.out⟩

end Go.Proofs.YthfhjgkpabkeaaaGreat.walks
namespace Go.Proofs.YthfhjgkpabkeaaaGreat.hp
open Go.RowKit rows heads words walks region
set_option linter.unusedVariables false

def RelB (B : Nat) (G C : Option Obj → Prop) (W W' : World) : Prop := Ch [B] W W' ∧ (G W.heap[B]? → G W'.heap[B]?) ∧ (C W.heap[B]? → C W'.heap[B]?)
theorem relB_refl (B : Nat) (G C : Option Obj → Prop) (W : World) : RelB B G C W W := ⟨Ch.refl _ _, fun z => z, fun z => z⟩
theorem relB_trans (B : Nat) (G C : Option Obj → Prop) (a b c : World) (h : RelB B G C a b) (g : RelB B G C b c) : RelB B G C a c := ⟨h.1.trans g.1, fun z => g.2.1 (h.2.1 z), fun z => g.2.2 (h.2.2 z)⟩
theorem relB_drew (B : Nat) (G C : Option Obj → Prop) (W : World) : RelB B G C W W.drew := ⟨⟨rfl, rfl, rfl, Nat.le_refl _, fun _ _ _ => rfl⟩, fun z => z, fun z => z⟩
theorem relB_below {B : Nat} {G C : Option Obj → Prop} {W W' : World} (h : Below W.heap.size W W') (hB : B < W.heap.size) : RelB B G C W W' := ⟨ch_below h, fun z => by rw [h.block _ hB]; exact z, fun z => by rw [h.block _ hB]; exact z⟩
theorem ch_cell {S : List Nat} {w w' : World} {p : Addr} (h : Ch S w w') (hl : p.block < w.heap.size) (hn : p.block ∉ S) : w'.cell? p = w.cell? p := by
  unfold World.cell?
  rw [h.block _ hl hn]
end Go.Proofs.YthfhjgkpabkeaaaGreat.hp
namespace Go.Proofs.YthfhjgkpabkeaaaGreat.walks
open Go.RowKit rows heads words
set_option maxRecDepth 100000

theorem rowI_below {w w' : World} {base n : Nat} {v : Value} {xs : List Int} (h : w.ownsRow base 2 1 v n (cellsOf xs)) (hx : xs.length = n) (hb : Below w.heap.size w w') : w'.ownsRow base 2 1 v n (cellsOf xs) := by
  subst hx
  exact own_below h hb
/-- The number in a cell. -/
def cellN (w : World) (g k : Nat) : Nat := match w.cell? ⟨g, k, none⟩ with
  | some (.int _ x) => x.toNat
  | _ => 0
theorem cellN_row {w : World} {base g len cap k : Nat} {xs : List Int} (h : w.ownsRow base 2 1 (.slice (some ⟨g, 0, none⟩) len cap) len (cellsOf xs)) (hx : xs.length = len) (hk : k < len) : cellN w g k = (xs.getD k 0).toNat := by
  have := World.ownsRow.cellAt h k (by omega)
  unfold cellN
  rw [this]
  simp [List.getD_eq_getElem?_getD, List.getElem?_eq_getElem (show k < xs.length by omega)]
theorem meas_go {T k n a b : Nat} (h : k < T) (hn : 0 < n) (ha : a ≤ T) : (T - (k + n)) * (T + 1) + a < (T - k) * (T + 1) + b := by
  have h1 : (T - (k + n) + 1) * (T + 1) ≤ (T - k) * (T + 1) := Nat.mul_le_mul_right _ (by omega)
  rw [Nat.add_mul] at h1
  omega

end Go.Proofs.YthfhjgkpabkeaaaGreat.walks
namespace Go.Proofs.YthfhjgkpabkeaaaGreat.walks
open Go.RowKit rows heads words
set_option maxRecDepth 100000
set_option linter.unusedVariables false

theorem gtr {a w w' : World} {row : Option Nat} (h : a.grownBy w row) (k : w.grownBy w' row) : a.grownBy w' row :=
  ⟨k.os.trans h.os, k.tape.trans h.tape, k.output.trans h.output, Nat.le_trans h.size k.size, fun j hj hn => (k.block j (Nat.lt_of_lt_of_le hj h.size) hn).trans (h.block j hj hn)⟩
theorem gset (W : World) (g i : Nat) (v : Value) : W.grownBy (W.setCell ⟨g, i, none⟩ v) (some g) := ⟨rfl, rfl, rfl, by simp, fun j _ hn => Below.heap_setCell W _ v j (fun e => hn (by simp [e]))⟩
theorem gbel {w w' : World} {row : Option Nat} (h : Below w.heap.size w w') : w.grownBy w' row := ⟨h.os, h.tape, h.output, h.size, fun k hk _ => h.block k hk⟩
set_option maxHeartbeats 4000000 in
theorem l4Free_g {w : World} {base g len cap k n : Nat} {xs : List Int} (hO : w.ownsRow base 2 1 (.slice (some ⟨g, 0, none⟩) len cap) len (cellsOf xs)) (hx : xs.length = len) (hl : len ≤ 1048576) (hg : base ≤ g) (hbw : base ≤ w.heap.size) (h2 : 2 ≤ n) (hkn : k + n ≤ len) :
    Calls Tryz.prog 42 #[.slice (some ⟨g, 0, none⟩) len cap, .int .i64 k, .int .i64 n] w fun e w' => (∃ v', e = .returned v') ∧ w'.ownsRow base 2 1 (.slice (some ⟨g, 0, none⟩) len cap) len (cellsOf (freeR xs k n)) ∧ w.grownBy w' (some g) := by
  have hok6 : hok 0 6 0 0 false false = true := by decide
  go_enter Tryz.func42, Tryz.ntmps42
  go_wp2_with fail
  go_loopw [6] (fun i wr => ∃ j : Nat, j ≤ n ∧ i = .int .i64 (j : Int) ∧ wr.ownsRow base 2 1 (.slice (some ⟨g, 0, none⟩) len cap) len (cellsOf (fill xs k j 0)) ∧ w.grownBy wr (some g)) (fun i _ => n - (intOf i).toNat)
  case atStart => exact ⟨0, by omega, by simp, by rw [fill_zero]; exact hO, World.grownBy.refl _ _⟩
  case round =>
    obtain ⟨j, hj, rfl, Or, Br⟩ := hrel
    by_cases hlt : j < n
    · have hlt' : (j : Int) < (n : Int) := by omega
      have c0 := World.ownsRow.cellAt Or (k + j) (by omega)
      have c1 := World.ownsRow.frozenAt Or (k + j)
      have S := (World.ownsRow.stored Or (k + j) (.int .i64 0)).1
      have e1 : (cellsOf (fill xs k j 0)).set (k + j) (.int .i64 0) = cellsOf (fill xs k (j + 1) 0) := by
        rw [← fill_set (by omega)]; simp [cellsOf, List.map_set]
      rw [e1] at S
      have HO : Hid _ := S
      have HB : Hid _ := gtr Br (gset wr g (k + j) (.int .i64 0))
      obtain ⟨y, hy'⟩ : ∃ y, (cellsOf (fill xs k j 0))[k + j]? = some y := ⟨_, List.getElem?_eq_getElem (by simp [fill_length (show k + j ≤ xs.length by omega)]; omega)⟩
      rw [hy'] at c0
      clear Or Br S e1 hy' hO
      go_wp2
      exact ⟨⟨j + 1, by omega, by go_num, HO, HB⟩, by simp [intOf]; omega⟩
    · have e : j = n := by omega
      subst e
      have hlt' : ¬ (j : Int) < (j : Int) := by omega
      have HO : Hid _ := Or
      have HB : Hid _ := Br
      have HFR : Hid (((fill xs k j 0).set k (pk 0 6 0 0 false false)).set (k + 1) (j : Int) = freeR xs k j) := freeR_set (by omega) h2
      clear Or Br hO
      go_wp2_with fail
      refine (l2Packed_ok 0 6 0 0 false false wr hok6).mono ?_
      rintro e w2 ⟨rfl, hw2⟩
      have O2 : w2.ownsRow base 2 1 (.slice (some ⟨g, 0, none⟩) len cap) len (cellsOf (fill xs k j 0)) := by rw [hw2]; exact World.ownsRow.alloc HO.out _
      have B2 : w.grownBy w2 (some g) := by rw [hw2]; exact gtr HB.out (World.grownBy_alloc wr _ _)
      clear hw2 HO HB
      have hfl : (fill xs k j 0).length = len := by rw [fill_length (by omega)]; exact hx
      have c0 := World.ownsRow.cellAt O2 k (by omega)
      have c1 := World.ownsRow.frozenAt O2 k
      have S := (World.ownsRow.stored O2 k (.int .i64 (pk 0 6 0 0 false false))).1
      have d0 := World.ownsRow.cellAt S (k + 1) (by omega)
      have d1 := World.ownsRow.frozenAt S (k + 1)
      have S2 := (World.ownsRow.stored S (k + 1) (.int .i64 (j : Int))).1
      have e1 : ((cellsOf (fill xs k j 0)).set k (.int .i64 (pk 0 6 0 0 false false))).set (k + 1) (.int .i64 (j : Int)) = cellsOf (freeR xs k j) := by rw [← HFR.out]; simp [cellsOf, List.map_set]
      rw [e1] at S2
      have HO : Hid _ := S2
      have HB : Hid _ := gtr (gtr B2 (gset w2 g k (.int .i64 (pk 0 6 0 0 false false)))) (gset _ g (k + 1) (.int .i64 (j : Int)))
      obtain ⟨y, hy'⟩ : ∃ y, (cellsOf (fill xs k j 0))[k]? = some y := ⟨_, List.getElem?_eq_getElem (by simp [hfl]; omega)⟩
      rw [hy'] at c0
      obtain ⟨y2, hy2⟩ : ∃ y, ((cellsOf (fill xs k j 0)).set k (.int .i64 (pk 0 6 0 0 false false)))[k + 1]? = some y := ⟨_, List.getElem?_eq_getElem (by simp [hfl]; omega)⟩
      rw [hy2] at d0
      clear O2 B2 S S2 e1 hy' hy2 hlt' hlt HFR
      go_wp2
      go_end0
      exact ⟨⟨_, rfl⟩, HO.out, HB.out⟩


end Go.Proofs.YthfhjgkpabkeaaaGreat.walks
namespace Go.Proofs.YthfhjgkpabkeaaaGreat.hp
open Go.RowKit rows
set_option linter.unusedVariables false
set_option linter.unusedSimpArgs false

theorem cellsI_length (xs : List Int) : (cellsOf xs).length = xs.length := by simp
theorem cellsI_append (xs ys : List Int) : cellsOf (xs ++ ys) = cellsOf xs ++ cellsOf ys := by simp [cellsOf]
theorem cellsI_one (xs : List Int) : ∀ v ∈ cellsOf xs, v.oneCell' = true := ints_oneCell .i64 xs
theorem zeroI (w : World) : (zeroValue 2).run Tryz.prog w = .ok (.int .i64 0) w := by kernel_rfl
/-- 'append(row, list...)' onto a row of the call's own. -/
theorem wpList_appIE {w : World} {base : Nat} {ops : Array Oper} {rest : List Oper} {o : Oper} {act : Act} {Q : Exit → Act → World → Prop} {a : Option Addr} {cap g n c : Nat} {es fs : List Int}
    (hbs : base ≤ w.heap.size) (hown : w.ownsRow base 2 1 (.slice (some ⟨g, 0, none⟩) n c) n (cellsOf es)) (h : IntsAt w (.slice a fs.length cap) fs) (hl : n + fs.length ≤ 1048576)
    (hgd : o.guard = none) (s x : Operand) (ho : o.op = .call { callee := .builtin .append, args := #[s, x], argTypes := #[22, 22] })
    (hs : act.eval s = .slice (some ⟨g, 0, none⟩) n c) (hx : act.eval x = .slice a fs.length cap)
    (hK : ∀ g' c' w1, w1.ownsRow base 2 1 (.slice (some ⟨g', 0, none⟩) (n + fs.length) c') (n + fs.length) (cellsOf (es ++ fs)) → Ch [g] w w1 → (g' = g ∨ w.heap.size ≤ g') → wpList Tryz.prog ops Q rest (act.put o.dst (.slice (some ⟨g', 0, none⟩) (n + fs.length) c')) w1) :
    wpList Tryz.prog ops Q (o :: rest) act w := by
  obtain ⟨i0, hi, hz0, hz1, hz2⟩ := info_parts info
  have h' := h
  obtain ⟨a', cap', e, hlc, hcm, hnil, _⟩ := h
  injection e with e1 e2 e3
  subst e1 e3
  cases a with
  | none =>
    have hcap := hnil rfl
    have e : fs = [] := List.eq_nil_of_length_eq_zero (by omega)
    subst e hcap
    refine wpList_append_own_none hgd s x 22 ho _ 2 i0 1 Tryz.underlying22 hi _ n (cellsOf es) hs hown hx ?_
    exact hK g c w (by simpa using hown) (Ch.refl _ _) (.inl rfl)
  | some ad =>
    refine wpList_append_own_at _ hgd s x 22 ho _ 2 i0 (.int .i64 0) 1 8 Tryz.underlying22 hi hz0 hz1 hz2 rfl (by decide) _ n (cellsOf es) hs hown ad fs.length cap (cellsOf fs) hx (by simp) (ints_news h') (cellsI_one fs) (by unfold maxLen; omega) (by omega) hbs ?_
    intro v' w1 hown' hgrow hnn hat
    have hown2 := hown'
    obtain ⟨_, ⟨h1, _⟩ | ⟨g', c', cur, h1, hg, hh, hle, hm, hsz, ht⟩⟩ := hown'
    · exact absurd (hnn.1 h1).1 (by simp)
    · subst h1
      refine hK g' c' w1 (by rw [cellsI_append]; exact hown2) (by simpa [blk, Value.ownBlock] using ch_grown hgrow) ?_
      rcases hat with hat | hat
      · exact .inl (by simpa [Value.ownBlock] using hat)
      · exact .inr (Nat.le_of_eq (by simpa [Value.ownBlock] using hat.symm))
/-- The same, where the length is written otherwise. -/
theorem wpList_appIN {w : World} {base : Nat} {ops : Array Oper} {rest : List Oper} {o : Oper} {act : Act} {Q : Exit → Act → World → Prop} {a : Option Addr} {cap g n c m : Nat} {es fs : List Int} (hm : fs.length = m)
    (hbs : base ≤ w.heap.size) (hown : w.ownsRow base 2 1 (.slice (some ⟨g, 0, none⟩) n c) n (cellsOf es)) (h : IntsAt w (.slice a m cap) fs) (hl : n + m ≤ 1048576)
    (hgd : o.guard = none) (s x : Operand) (ho : o.op = .call { callee := .builtin .append, args := #[s, x], argTypes := #[22, 22] })
    (hs : act.eval s = .slice (some ⟨g, 0, none⟩) n c) (hx : act.eval x = .slice a m cap)
    (hK : ∀ g' c' w1, w1.ownsRow base 2 1 (.slice (some ⟨g', 0, none⟩) (n + m) c') (n + m) (cellsOf (es ++ fs)) → Ch [g] w w1 → (g' = g ∨ w.heap.size ≤ g') → wpList Tryz.prog ops Q rest (act.put o.dst (.slice (some ⟨g', 0, none⟩) (n + m) c')) w1) :
    wpList Tryz.prog ops Q (o :: rest) act w := by
  subst hm
  exact wpList_appIE hbs hown h hl hgd s x ho hs hx hK
/-- What is cut off a list from k on, and up to k. -/
theorem intsG_from {w : World} {g len cap k : Nat} {es : List Int} (h : IntsAt w (.slice (some ⟨g, 0, none⟩) len cap) es) (hl : es.length = len) (hk : k ≤ len) (ad : Option Addr) (had : ad = some ⟨g, 0, none⟩ ∧ k = len ∨ ad = some ⟨g, k, none⟩) : IntsAt w (.slice ad (len - k) (cap - k)) (es.drop k) := by
  subst hl
  obtain ⟨a', cap', e, hlc, hcm, _, hc⟩ := h
  injection e with e1 e2 e3
  subst e3
  refine ⟨ad, cap - k, by rw [List.length_drop], by rw [List.length_drop]; omega, by omega, (fun hn => by rcases had with ⟨h1, _⟩ | h1 <;> rw [h1] at hn <;> cases hn), fun hp => ?_⟩
  rw [List.length_drop] at hp
  obtain ⟨b, off, hbo, hbl, hcc⟩ := hc (by omega)
  rw [← e1] at hbo
  injection hbo with hbo
  injection hbo with hb1 hb2
  subst hb1 hb2
  rcases had with ⟨_, h1⟩ | h1
  · omega
  · refine ⟨g, k, h1, hbl, fun i hi => ?_⟩
    rw [List.length_drop] at hi
    have := hcc (k + i) (by omega)
    rw [show 0 + (k + i) = k + i by omega] at this
    simpa [List.getD_eq_getElem?_getD] using this
theorem intsG_upto {w : World} {g len cap k : Nat} {es : List Int} (h : IntsAt w (.slice (some ⟨g, 0, none⟩) len cap) es) (hl : es.length = len) (hk : k ≤ len) : IntsAt w (.slice (some ⟨g, 0, none⟩) k cap) (es.take k) := by
  subst hl
  obtain ⟨a', cap', e, hlc, hcm, _, hc⟩ := h
  injection e with e1 e2 e3
  subst e3
  have el : (es.take k).length = k := by rw [List.length_take]; omega
  refine ⟨_, cap, by rw [el], by omega, hcm, (fun hn => by cases hn), fun hp => ?_⟩
  obtain ⟨b, off, hbo, hbl, hcc⟩ := hc (by omega)
  rw [← e1] at hbo
  refine ⟨b, off, hbo, hbl, fun i hi => ?_⟩
  have := hcc i (by omega)
  have hik : i < k := by omega
  have e9 : (es.take k).getD i 0 = es.getD i 0 := by rw [List.getD_eq_getElem?_getD, List.getD_eq_getElem?_getD, List.getElem?_take, if_pos hik]
  rw [e9]
  exact this
/-- 'append(list[:i], make([]Entry, k)...)' where the list has no room: a new row. -/
theorem wpList_zerosI {w : World} {ops : Array Oper} {rest : List Oper} {o : Oper} {act : Act} {Q : Exit → Act → World → Prop} {g n i k m : Nat} {es : List Int}
    (hgd : o.guard = none) (s x : Operand) (ho : o.op = .call { callee := .builtin .append, args := #[s, x], argTypes := #[22, 3] }) (k' : Int)
    (hs : act.eval s = .slice (some ⟨g, 0, none⟩) i n) (hx : act.eval x = .int .i64 k') (hk : k' = (k : Int)) (F : Full w g es) (hn : es.length = n) (hi : i ≤ n) (h40 : n ≤ 1048576) (h0 : 0 < k) (hg : n < i + k) (hk2 : k ≤ 1048576) (hm : i + k = m)
    (hK : ∀ (w1 : World) (L : List Value) (cap : Nat), Hid (w1.heap[w.heap.size]? = some (.cells L.toArray 2 (0, 0))) → Hid (L.take (i) = cellsOf (es.take i)) → L.length = cap → m ≤ cap → cap ≤ 9223372036854775807 → Hid (Below w.heap.size w w1) → wpList Tryz.prog ops Q rest (act.put o.dst (.slice (some ⟨w.heap.size, 0, none⟩) m cap)) w1) :
    wpList Tryz.prog ops Q (o :: rest) act w := by
  obtain ⟨i0, hi0, hz0, hz1, hz2⟩ := info_parts info
  subst hk hn hm
  have O := intsG_upto (k := i) (own_ints (full_own (base := 0) F (Nat.zero_le _) (by unfold maxLen; omega))) rfl hi
  have el : (es.take i).length = i := by rw [List.length_take]; omega
  have hold : (Builtin.firstCells i0.size i (.slice (some ⟨g, 0, none⟩) i es.length)).run Tryz.prog w.drew = .ok (cellsOf (es.take i)).toArray w.drew := by
    rw [hz1]
    exact run_firstCells_some w.drew 1 i ⟨g, 0, none⟩ i es.length (cellsOf (es.take i)) (by rw [cellsI_length, el, Nat.mul_one]) (ints_news (n := i) (cap := es.length) O)
  have hr := Lib.run_append_grow_zeros w 22 3 o.type 2 i0 (.int .i64 0) .i64 .i64 Tryz.underlying22 Tryz.underlying3 hi0 hz0 (some ⟨g, 0, none⟩) i es.length (cellsOf (es.take i)) hold k h0 (by omega) hg (by omega) (by rw [hz2]; omega) (by rw [hz2]; exact growslice_fits hg (by omega))
  have hge := grownCap_ge w (i + k) es.length 2
  have hcm : grownCap w (i + k) es.length 2 ≤ maxLen := grownCap_le_maxLen w (i + k) es.length 2 (by unfold maxLen; omega)
  refine wpList_plain hgd fun K hK' => ?_
  unfold Oper.wp
  simp [execOp, ho, resolve, invoke, builtin, hs, hx, hr, Result.andThen]
  refine hK' _ _ ?_
  generalize grownCap w (i + k) es.length 2 = cap at *
  refine hK _ ((cellsOf (es.take i)).toArray ++ (Builtin.zeroCells (Value.int .i64 0).cells k ++ Builtin.zeroCells (Value.int .i64 0).cells (cap - (i + k)))).toList cap (by show _ = _; rw [Array.toArray_toList]; simp only [cellsOf, List.map_take]; exact heap_alloc_new w.drew _) ?_ ?_ hge hcm ?_
  · show List.take _ _ = _
    simp only [Array.toList_append]
    exact List.take_left' (by simp; omega)
  · simp [Builtin.zeroCells, Value.cells, cellsI_length, el]
    omega
  · exact ⟨rfl, rfl, rfl, by simp, fun j hj => Below.heap_alloc w.drew _ j hj⟩
theorem splice_atI {L : List Value} {off : Nat} {X Y : List Value} (h : L.take off = X) (hf : off + Y.length ≤ L.length) : (splice L off Y).take (off + Y.length) = X ++ Y := by
  unfold splice
  rw [h, ← List.append_assoc]
  exact List.take_left' (by rw [← h]; simp; omega)
/-- append within the capacity, as one step of a region that draws its order. -/
theorem step_append_fitsI {P : Program} {ops : Array Oper} {o : Oper} {a : Act} {w : World} {K : Act → World → Prop} {Q : Exit → Act → World → Prop} {E : Prop} (hgd : o.guard = none) (s x : Operand) (t : TypeId)
    (ho : o.op = Op.call { callee := Callee.builtin Builtin.append, args := #[s, x], argTypes := #[t, t] })
    (base : Nat) (e : TypeId) (i : TypeInfo) (size : Nat) (h1 : P.underlying t = some (.slice e)) (h2 : P.info? e = some i) (h4 : i.size = size)
    (g k cap : Nat) (xs : List Value) (hs : a.eval s = .slice (some ⟨g, 0, none⟩) k cap) (hown : w.ownsRow base e size (.slice (some ⟨g, 0, none⟩) k cap) k xs) (ad : Addr) (m c : Nat) (news : List Value) (hx : a.eval x = .slice (some ad) m c) (hn : news.length = m * size)
    (hc : ∀ j u, news[j]? = some u → w.cell? (ad.add j) = some u) (h1c : ∀ u ∈ news, u.oneCell' = true) (b1 : k + m ≤ cap) (q : Nat) (hq : k + m = q)
    (hK : ∀ w', w'.ownsRow base e size (.slice (some ⟨g, 0, none⟩) q cap) q (xs ++ news) → w.grownBy w' (some g) → K (a.put o.dst (.slice (some ⟨g, 0, none⟩) q cap)) w') :
    if Region.wanted o (yielded ops a.tmps) = true then Oper.wp P o a w K Q else E := by
  subst hq
  have hw : Region.wanted o (yielded ops a.tmps) = true := by simp [Region.wanted, hgd]
  rw [if_pos hw]
  obtain ⟨w', hrun, r1, r2⟩ := run_append_fits (P := P) w base t o.type e i size h1 h2 h4 g k cap xs hown ad m c news hn hc h1c b1
  unfold Oper.wp
  simp [execOp, ho, resolve, invoke, builtin, hs, hx, hrun, Result.andThen]
  exact hK w' r1 r2
/-- 'clear' on the last n entries of an own row. -/
theorem wpList_clearI {w : World} {base : Nat} {ops : Array Oper} {rest : List Oper} {o : Oper} {act : Act} {Q : Exit → Act → World → Prop} {g k n cap c : Nat} {es : List Int}
    (hgd : o.guard = none) (s : Operand) (ho : o.op = .call { callee := .builtin .clear, args := #[s], argTypes := #[22] })
    (hs : act.eval s = .slice (some ⟨g, k, none⟩) n c) (hown : w.ownsRow base 2 1 (.slice (some ⟨g, 0, none⟩) k cap) k (cellsOf es)) (hkn : k + n ≤ cap)
    (hK : ∀ w', w'.ownsRow base 2 1 (.slice (some ⟨g, 0, none⟩) k cap) k (cellsOf es) → Ch [g] w w' → wpList Tryz.prog ops Q rest (act.put o.dst (.tuple #[])) w') :
    wpList Tryz.prog ops Q (o :: rest) act w := by
  obtain ⟨h0, ⟨h1, _⟩ | ⟨g', cap', cur, h1, hg, hh, hle, hm, hsz, ht⟩⟩ := hown
  · cases h1
  injection h1 with e1 e2 e3
  injection e1 with e1
  injection e1 with e1
  subst e1 e3
  refine wpList_plain hgd fun K hK' => ?_
  obtain ⟨w', hrun, r1, r2, r3⟩ := copyk.run_clear_k (P := Tryz.prog) w 22 2 o.type (.int .i64 0) 1 Tryz.underlying22 zeroI (some ⟨g, k, none⟩) n c g (k) cur.toList 2 (by simpa using hh) (fun _ => rfl) (by simp [Builtin.zeroCells, Value.cells]) (by
    intro v hv
    simp only [Builtin.zeroCells, Value.cells] at hv
    simp at hv
    obtain ⟨j, hj, rfl⟩ := hv
    rw [Nat.mod_one]; rfl) (by simp [hsz]; omega)
  unfold Oper.wp
  simp [execOp, ho, resolve, invoke, builtin, hs, hrun, Result.andThen]
  have r4 := r3 (Below.refl g w) (Nat.le_refl _)
  refine hK' _ _ (hK w' ⟨h0, .inr ⟨g, cap, _, rfl, hg, r1, hle, hm, ?_, ?_⟩⟩ ⟨r4.os, r4.tape, r4.output, r4.size, fun k _ hn => r2 k (fun e => hn (by simp [e]))⟩)
  · split
    · simpa using hsz
    · rw [List.size_toArray, length_splice _ _ _ (by simp [Builtin.zeroCells, Value.cells, hsz]; omega)]
      simpa using hsz
  · split
    · simpa using ht
    · rw [← ht]
      rw [Nat.mul_one]
      unfold splice
      exact List.take_left' (by simp [hsz]; omega)
end Go.Proofs.YthfhjgkpabkeaaaGreat.hp
namespace Go.Proofs.YthfhjgkpabkeaaaGreat.hp
open Go.RowKit rows
set_option linter.unusedVariables false
set_option linter.unusedSimpArgs false

/-- 'append(row, x)' onto a row of the call's own, nil or not. -/
theorem wpList_appG {w : World} {base : Nat} {ops : Array Oper} {rest : List Oper} {o : Oper} {act : Act} {Q : Exit → Act → World → Prop} {v : Value} {vb n : Nat} {es : List Int} {x : Int}
    (hbs : base ≤ w.heap.size) (hown : w.ownsRow base 2 1 v n (cellsOf es)) (h : w.heap[vb]? = some (.cells #[.int .i64 x] 2 (0, 0))) (hl : n ≤ 1048576)
    (hgd : o.guard = none) (s y : Operand) (ho : o.op = .call { callee := .builtin .append, args := #[s, y], argTypes := #[22, 22] })
    (hs : act.eval s = v) (hy : act.eval y = .slice (some ⟨vb, 0, none⟩) 1 1)
    (hK : ∀ a' c' w1, w1.ownsRow base 2 1 (.slice a' (n + 1) c') (n + 1) (cellsOf (es ++ [x])) → Ch (blk v) w w1 → (∀ k ∈ blk (.slice a' (n + 1) c'), k ∈ blk v ∨ w.heap.size ≤ k) → wpList Tryz.prog ops Q rest (act.put o.dst (.slice a' (n + 1) c')) w1) :
    wpList Tryz.prog ops Q (o :: rest) act w := by
  obtain ⟨i0, hi, hz0, hz1, hz2⟩ := info_parts info
  have F : Full w vb [x] := h
  refine wpList_append_own_at _ hgd s y 22 ho _ 2 i0 (.int .i64 0) 1 8 Tryz.underlying22 hi hz0 hz1 hz2 rfl (by decide) v n (cellsOf es) hs hown ⟨vb, 0, none⟩ 1 1 (cellsOf [x]) hy (by simp) (ints_news (own_ints (full_own (base := 0) F (Nat.zero_le _) (show 1 ≤ maxLen by decide)))) (cellsI_one [x]) (by unfold maxLen; omega) (by omega) hbs ?_
  intro v' w1 hown' hgrow _ hat
  obtain ⟨a', c', rfl⟩ : ∃ a c, v' = .slice a (n + 1) c := by
    obtain ⟨_, ⟨h1, h2⟩ | ⟨g', c', cur, h1, _⟩⟩ := hown'
    · omega
    · exact ⟨_, _, h1⟩
  refine hK a' c' w1 (by rw [cellsI_append]; exact hown') (ch_grown hgrow) (fun k hk => ?_)
  unfold blk at hk ⊢
  rcases hat with e | e
  · rw [e] at hk; exact .inl hk
  · rw [e] at hk; simp at hk; exact .inr (by omega)
theorem splice_shift {L : List Value} {es : List Int} {i : Nat} {x : Int} (hL : es.length + 1 ≤ L.length) (hT : L.take es.length = cellsOf es) (hi : i < es.length) :
    (splice (splice L (i + 1) (cellsOf (es.drop i))) i (cellsOf [x])).take (es.length + 1) = cellsOf (es.take i ++ [x] ++ es.drop i) := by
  have e1 : (cellsOf (es.drop i)).length = es.length - i := by simp
  have e2 : L.take i = cellsOf (es.take i) := by
    have : L.take i = (L.take es.length).take i := by rw [List.take_take, Nat.min_eq_left (by omega)]
    rw [this, hT]; simp [cellsOf, List.map_take]
  have e3 : (L.take (i + 1)).length = i + 1 := by rw [List.length_take]; omega
  generalize hY : cellsOf (es.drop i) = Y at *
  have e4 : (splice L (i + 1) Y).take i = L.take i := by
    unfold splice
    rw [List.take_append_of_le_length (by omega), List.take_take, Nat.min_eq_left (by omega)]
  have e5 : (splice L (i + 1) Y).drop (i + 1) = Y ++ L.drop (i + 1 + Y.length) := by
    unfold splice
    rw [List.drop_append_of_le_length (by omega), List.drop_eq_nil_of_le (by omega), List.nil_append]
  rw [show splice (splice L (i + 1) Y) i (cellsOf [x]) = (splice L (i + 1) Y).take i ++ (cellsOf [x] ++ (splice L (i + 1) Y).drop (i + (cellsOf [x]).length)) from rfl, show i + (cellsOf [x]).length = i + 1 by simp [cellsOf], e4, e5, e2, ← List.append_assoc, ← List.append_assoc, cellsI_append, cellsI_append, hY]
  exact List.take_left' (by simp [e1]; omega)
end Go.Proofs.YthfhjgkpabkeaaaGreat.hp
namespace Go.Proofs.YthfhjgkpabkeaaaGreat.hp
open Go.RowKit rows heads words walks
set_option maxRecDepth 100000
set_option linter.unusedVariables false

set_option maxHeartbeats 4000000 in
theorem l15Word_any {w : World} {ta : Option Addr} {tn tc : Nat} {tl : List Int} (ht : IntsAt w (.slice ta tn tc) tl) {x : Int} (hx : isA x = true → (av x).toNat < tl.length) (hb : ∀ q, q < tl.length → -1 ≤ tl.getD q 0 ∧ tl.getD q 0 ≤ 1000) :
    Calls Tryz.prog 45 #[.slice ta tn tc, .int .i64 x] w fun e w' => e = .returned (.int .i64 (if isA x = true ∧ 0 ≤ tl.getD (av x).toNat 0 then 4 * tl.getD (av x).toNat 0 + 4 else x)) ∧ w' = w := by
  have SA := sAddrOf_any x w
  cases dA : isA x
  · rw [dA] at SA
    rw [if_neg (fun e => by cases e.1)]
    generalize av x = a at *
    clear hx hb ht dA
    go_enter Tryz.func45, Tryz.ntmps45
    go_wp2_with (go_at_call 72; refine SA.mono ?_; clear SA; rintro e w3 ⟨rfl, hw3⟩; rw [hw3]; clear hw3 w3)
    go_ret
    exact ⟨rfl, rfl⟩
  · rw [dA] at SA
    have ha : 0 ≤ av x := by
      obtain ⟨h3, h1, h2⟩ := isA_true dA
      unfold av
      rw [if_pos dA]
      omega
    have hl := hx dA
    obtain ⟨k, hk⟩ : ∃ k : Nat, av x = (k : Int) := ⟨(av x).toNat, by omega⟩
    rw [hk] at SA hl ⊢
    rw [Int.toNat_natCast] at hl ⊢
    obtain ⟨a', c', e, _, _, _, hcs⟩ := ht
    injection e with e1 e2 e3
    subst e1 e2 e3
    obtain ⟨b, off, ea, _, hcell⟩ := hcs (by omega)
    subst ea
    have c0 := hcell k hl
    have hbk := hb k hl
    have hl' : (k : Int) < (tl.length : Int) := by omega
    generalize tl.getD k 0 = y at *
    clear hx hb hcs hcell dA ha hk
    by_cases hy : 0 ≤ y
    · rw [if_pos ⟨rfl, hy⟩]
      go_enter Tryz.func45, Tryz.ntmps45
      go_wp2_with (go_at_call 72; refine SA.mono ?_; clear SA; rintro e w3 ⟨rfl, hw3⟩; rw [hw3]; clear hw3 w3)
      go_ret
      exact ⟨rfl, rfl⟩
    · rw [if_neg (fun e => hy e.2)]
      go_enter Tryz.func45, Tryz.ntmps45
      go_wp2_with (go_at_call 72; refine SA.mono ?_; clear SA; rintro e w3 ⟨rfl, hw3⟩; rw [hw3]; clear hw3 w3)
      go_ret
      exact ⟨rfl, rfl⟩
end Go.Proofs.YthfhjgkpabkeaaaGreat.hp
namespace Go.Proofs.YthfhjgkpabkeaaaGreat.hp
open Go.RowKit rows heads words walks
set_option maxRecDepth 100000
set_option linter.unusedVariables false
set_option linter.unusedSimpArgs false

/-- 'append(nil, make(.., k)...)', told as it is. -/
theorem wpList_growI {w : World} {ops : Array Oper} {rest : List Oper} {o : Oper} {act : Act} {Q : Exit → Act → World → Prop} (hgd : o.guard = none) (s x : Operand) (ho : o.op = .call { callee := .builtin .append, args := #[s, x], argTypes := #[22, 3] })
    (hs : act.eval s = .slice none 0 0) (k : Nat) (h0 : 0 < k) (hk : k ≤ 100000) (hx : act.eval x = .int .i64 (k : Int))
    (hK : ∀ cap w', k ≤ cap → cap ≤ maxLen → rows.Own w' w.heap.size (.slice (some ⟨w.heap.size, 0, none⟩) 0 cap) [] → Below w.heap.size w w' → wpList Tryz.prog ops Q rest (act.put o.dst (.slice (some ⟨w.heap.size, 0, none⟩) k cap)) w') :
    wpList Tryz.prog ops Q (o :: rest) act w := by
  obtain ⟨i0, hi, hz0, hz1, hz2⟩ := info_parts info
  refine wpList_plain hgd fun K hK' => ?_
  have hrun := Go.Lib.run_append_grow_zeros (P := Tryz.prog) w 22 3 o.type 2 i0 (.int .i64 0) .i64 .i64 Tryz.underlying22 Tryz.underlying3 hi hz0 none 0 0 [] (by simp [Builtin.firstCells]) k h0 (by rw [hz1]; decide) (by omega) (by omega) (by rw [hz2]; omega) (by rw [hz2]; unfold Builtin.nextslicecap; simp; split <;> omega)
  unfold Oper.wp
  simp [execOp, ho, resolve, invoke, builtin, hs, hx, hrun, Result.andThen]
  have hge := grownCap_ge w (0 + k) 0 2
  have hle := grownCap_le_maxLen w (0 + k) 0 2 (by unfold maxLen; omega)
  rw [Nat.zero_add] at hge hle
  refine hK' _ _ (hK _ _ hge hle ?_ ((Below.refl _ w).drew.alloc (Nat.le_refl _) _))
  refine ⟨rfl, .inr ⟨w.heap.size, _, _, rfl, Nat.le_refl _, heap_alloc_new w.drew _, Nat.zero_le _, hle, ?_, by simp [cellsOf]⟩⟩
  simp [size_zeroCells, Value.cells]
  omega

set_option maxHeartbeats 4000000 in
theorem growI_any (k : Nat) (hk : k ≤ 100000) (w : World) :
    Calls Tryz.prog 85 #[.slice none 0 0, .int .i64 (k : Int)] w fun e w' => ∃ v', e = .returned v' ∧ rows.Own w' w.heap.size v' [] ∧ Below w.heap.size w w' := by
  by_cases h0 : k = 0
  · subst h0
    go_enter Tryz.func85, Tryz.ntmps85
    go_wp2
    go_ret
    exact ⟨_, rfl, World.ownsRow_nil _ _ _ _, Below.refl _ _⟩
  · have hp : 0 < k := by omega
    have hp1 : (k : Int) > 0 := by omega
    have hp2 : ¬ (k : Int) < 0 := by omega
    go_enter Tryz.func85, Tryz.ntmps85
    go_wp2_with (refine wpList_growI rfl (.tmp 20) (.tmp 21) rfl (by first | rfl | (simp [go_sem]; done)) k hp hk (by first | rfl | (simp [go_sem]; done)) ?_; intro cap w2 hc1 hc2 hO hB; have HO : Hid _ := hO; have HB : Hid _ := hB; have hc3 : cap ≤ 9223372036854775807 := hc2; clear hO hB)
    go_ret
    exact ⟨_, rfl, HO.out, HB.out⟩

/-- One more list of numbers behind a row of the call's own, nil or not. -/
theorem wpList_app_ints {w : World} {ops : Array Oper} {rest : List Oper} {o : Oper} {act : Act} {Q : Exit → Act → World → Prop} (hgd : o.guard = none) (s x : Operand) (ho : o.op = .call { callee := .builtin .append, args := #[s, x], argTypes := #[22, 22] })
    (base : Nat) (v : Value) (ds : List Int) (hs : act.eval s = v) (hown : rows.Own w base v ds) (u : Value) (es : List Int) (hx : act.eval x = u) (hU : IntsAt w u es) (hb : ds.length + es.length ≤ 100000) (hbase : base ≤ w.heap.size)
    (hK : ∀ v' w', rows.Own w' base v' (ds ++ es) → Ch (blk v) w w' → wpList Tryz.prog ops Q rest (act.put o.dst v') w') :
    wpList Tryz.prog ops Q (o :: rest) act w := by
  obtain ⟨i0, hi, hz0, hz1, hz2⟩ := info_parts info
  obtain ⟨ad, cap, e, hlc, hcm, hnil, _⟩ := id hU
  subst e
  cases ad with
  | some ad =>
    refine wpList_append_own_at _ hgd s x _ ho base 2 i0 (.int .i64 0) 1 8 Tryz.underlying22 hi hz0 hz1 hz2 rfl (by decide) v ds.length (cellsOf ds) hs hown ad es.length cap (cellsOf es) hx (by simp) (ints_news hU) (cellsI_one es) (by unfold maxLen; omega) (by omega) hbase ?_
    intro v' w' h1 h2 _ _
    refine hK v' w' ?_ (ch_grown h2)
    show World.ownsRow _ _ _ _ _ _ _
    rw [cellsI_append, List.length_append]
    exact h1
  | none =>
    have hc := hnil rfl
    have hy : es = [] := List.eq_nil_of_length_eq_zero (by omega)
    subst hy hc
    refine wpList_plain hgd fun K hK' => ?_
    have hrun := run_append_owned_none (P := Tryz.prog) (w := w) base 22 o.type 2 i0 1 Tryz.underlying22 hi v ds.length (cellsOf ds) hown
    have hx' : act.eval x = .slice none 0 0 := hx
    unfold Oper.wp
    simp [execOp, ho, resolve, invoke, builtin, hs, hx', hrun, Result.andThen]
    exact hK' _ _ (hK v w (by rw [List.append_nil]; exact hown) (Ch.refl _ _))
/-- A list of lists of numbers. -/
def ListsAt (w : World) (v : Value) (ls : List (List Int)) : Prop := ∃ b c, v = .slice (some ⟨b, 0, none⟩) ls.length c ∧ b < w.heap.size ∧ ∀ i, i < ls.length → ∃ u, w.cell? ⟨b, i, none⟩ = some u ∧ IntsAt w u (ls.getD i [])
theorem flat_next {ls : List (List Int)} {k : Nat} (hk : k < ls.length) : (ls.take (k + 1)).flatten = (ls.take k).flatten ++ ls.getD k [] := by
  rw [List.take_add_one, List.flatten_append, List.getElem?_eq_getElem hk, List.getD_eq_getElem?_getD, List.getElem?_eq_getElem hk]
  simp
theorem flat_le (ls : List (List Int)) (k : Nat) : (ls.take k).flatten.length ≤ ls.flatten.length := by
  have : ls.flatten = (ls.take k).flatten ++ (ls.drop k).flatten := by rw [← List.flatten_append, List.take_append_drop]
  rw [this, List.length_append]
  omega
set_option maxHeartbeats 8000000 in
theorem concatI_any {w : World} {v : Value} {ls : List (List Int)} (h : ListsAt w v ls) (hn : ls.length ≤ 100000) (hs : ls.flatten.length ≤ 100000) :
    Calls Tryz.prog 53 #[v] w fun e w' => ∃ v', e = .returned v' ∧ rows.Own w' w.heap.size v' ls.flatten ∧ Below w.heap.size w w' := by
  obtain ⟨b, c, rfl, hbl, hcell⟩ := h
  have HC : Hid _ := hcell
  have HFN : Hid (∀ k, k < ls.length → (ls.take (k + 1)).flatten = (ls.take k).flatten ++ ls.getD k []) := fun k hk => flat_next hk
  have HFL : Hid (∀ k, (ls.take k).flatten.length ≤ 100000) := fun k => Nat.le_trans (flat_le ls k) hs
  have HF0 : Hid ((ls.take 0).flatten = []) := rfl
  have HFE : Hid ((ls.take ls.length).flatten = ls.flatten) := by show _ = _; rw [List.take_length]
  clear hcell hs
  go_enter Tryz.func53, Tryz.ntmps53
  go_wp2_with fail
  go_loopw [3, 5, 11] (fun z _ q wr => ∃ k : Nat, k ≤ ls.length ∧ q = .int .i64 (k : Int) ∧ z = .int .i64 (((ls.take k).flatten.length : Nat) : Int) ∧ wr = w) (fun _ _ q _ => ls.length - (intOf q).toNat)
  case atStart => exact ⟨0, Nat.zero_le _, rfl, rfl, rfl⟩
  case round =>
    obtain ⟨k, hk, rfl, rfl, hw⟩ := hrel
    have hw' := hw.symm
    clear hw
    subst hw'
    by_cases hlt : k < ls.length
    · have hlt' : (k : Int) < (ls.length : Int) := by omega
      obtain ⟨u, hu, hi⟩ := HC.out k hlt
      obtain ⟨ua, uc, rfl, _, _, _, _⟩ := hi
      have h1 := HFL.out k
      have h2 := HFL.out (k + 1)
      rw [HFN.out k hlt, List.length_append] at h2
      have HE : Hid (((ls.take k).flatten.length : Int) + ((ls.getD k []).length : Int) = (((ls.take (k + 1)).flatten.length : Nat) : Int)) := by
        show _ = _
        rw [HFN.out k hlt, List.length_append]
        omega
      have p1 : ¬ ((ls.take k).flatten.length : Int) + ((ls.getD k []).length : Int) < 0 := by omega
      have p2 : IntKind.i64.wrap (((ls.take k).flatten.length : Int) + ((ls.getD k []).length : Int)) = ((ls.take k).flatten.length : Int) + ((ls.getD k []).length : Int) := by rw [IntKind.wrap_i64]; omega
      generalize (ls.take k).flatten.length = n1 at *
      generalize (ls.getD k []).length = n2 at *
      go_wp2
      exact ⟨⟨k + 1, by omega, by go_num, by rw [HE.out], by trivial⟩, by simp [intOf]; omega⟩
    · have hlt' : ¬ (k : Int) < (ls.length : Int) := by omega
      have e : k = ls.length := by omega
      subst e
      have h1 := HFL.out ls.length
      obtain ⟨T, hT⟩ : ∃ T : Nat, (ls.take ls.length).flatten.length = T := ⟨_, rfl⟩
      rw [hT] at h1
      have GR := growI_any T h1 w
      rw [hT]
      clear hT
      go_wp2_with fail
      refine GR.mono ?_
      clear GR
      rintro e w2 ⟨v2, rfl, O2, b2⟩
      have HO2 : Hid _ := O2
      have HB2 : Hid _ := b2
      obtain ⟨na, nn, nc, rfl⟩ := ints_slice (own_ints O2)
      clear O2 b2
      go_wp2_with fail
      go_loopw [6, 8, 27] (fun o _ q wz => ∃ v, v = o ∧ ∃ k : Nat, k ≤ ls.length ∧ q = .int .i64 (k : Int) ∧ rows.Own wz w.heap.size v (ls.take k).flatten ∧ Below w.heap.size w wz) (fun _ _ q _ => ls.length - (intOf q).toNat)
      case atStart => exact ⟨_, rfl, 0, Nat.zero_le _, rfl, by rw [HF0.out]; exact HO2.out, HB2.out⟩
      case round =>
        obtain ⟨v, rfl, k, hk, rfl, hO, hB⟩ := hrel
        clear HO2 HB2
        have HB : Hid _ := hB
        have sB := hB.size
        have HOV : Hid _ := hO
        obtain ⟨va, vn, vc, rfl⟩ := ints_slice (own_ints hO)
        by_cases hlt : k < ls.length
        · have hlt' : (k : Int) < (ls.length : Int) := by omega
          obtain ⟨u, hu, hi⟩ := HC.out k hlt
          have HU : Hid _ := intsAt_below hi hB
          obtain ⟨ua, uc, rfl, _, _, _, _⟩ := hi
          have z0 := (hB.cell (p := ⟨b, k, none⟩) hbl).trans hu
          have h2 := HFL.out (k + 1)
          rw [HFN.out k hlt, List.length_append] at h2
          have HE : Hid _ := HFN.out k hlt
          have HBL : Hid _ := blk_lt hO
          clear hO hB hu
          generalize ls.getD k [] = es at *
          generalize (ls.take k).flatten = fl at *
          go_wp2_with (refine wpList_app_ints rfl (.tmp 31) (.tmp 32) rfl w.heap.size (.slice va vn vc) fl (by first | rfl | (simp [go_sem]; done)) HOV.out (.slice ua es.length uc) es (by first | rfl | (simp [go_sem]; done)) HU.out (by omega) sB ?_; intro v' w5 h5 c5; have HO5 : Hid _ := h5; have HB5 : Hid (Below w.heap.size w w5) := HB.out.trans (below_ch c5 sB (fun z hz => (HBL.out z hz).1)); obtain ⟨va', vn', vc', rfl⟩ := ints_slice (own_ints h5); clear h5 c5)
          exact ⟨⟨_, rfl, k + 1, by omega, by go_num, by rw [HE.out]; exact HO5.out, HB5.out⟩, by simp [intOf]; omega⟩
        · have hlt' : ¬ (k : Int) < (ls.length : Int) := by omega
          have e : k = ls.length := by omega
          subst e
          rw [HFE.out] at HOV
          clear hO hB
          go_wp2
          go_ret
          exact ⟨_, rfl, HOV.out, HB.out⟩
end Go.Proofs.YthfhjgkpabkeaaaGreat.hp
