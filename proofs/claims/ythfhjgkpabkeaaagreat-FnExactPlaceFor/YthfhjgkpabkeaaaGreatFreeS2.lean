/-
  Chapter 8 as the specification has it: the places of free chunks.
  Made from the template FreeS2.
-/
import Derived.Test.YthfhjgkpabkeaaaGreatM10
import Derived.Test.YthfhjgkpabkeaaaGreatM1
import Derived.Maps.AppendAt
namespace Go.Proofs.YthfhjgkpabkeaaaGreat.walks
open Go.RowKit rows heads words
set_option maxRecDepth 100000

theorem grown_join {a b c : World} {r : Option Nat} (h : a.grownBy b r) (k : b.grownBy c r) : a.grownBy c r :=
  ⟨k.os.trans h.os, k.tape.trans h.tape, k.output.trans h.output, Nat.le_trans h.size k.size, fun j hj hn => (k.block j (Nat.lt_of_lt_of_le hj h.size) hn).trans (h.block j hj hn)⟩
theorem app_int {w w1 : World} {base : Nat} {v v' : Value} {o : Obj} {xs : List Int} {x : Int} (hown : w1.ownsRow base 2 1 v' (xs.length + 1) (cellsOf xs ++ [.int .i64 x])) (hgrow : (w.alloc o).grownBy w1 v.ownBlock) (hat : v'.ownBlock = v.ownBlock ∨ v'.ownBlock = some (w.alloc o).heap.size) :
    rows.Own w1 base v' (xs ++ [x]) ∧ w.grownBy w1 v.ownBlock ∧ ∀ k, v'.ownBlock = some k → v.ownBlock = some k ∨ w.heap.size < k :=
  ⟨own_snoc hown, grown_join (World.grownBy_alloc w o _) hgrow, fun k e => by
    rcases hat with h | h
    · exact .inl (h ▸ e)
    · right; rw [h] at e; injection e with e; simp at e; omega⟩
theorem one_int (w : World) (x : Int) : ∀ i u, [Value.int .i64 x][i]? = some u → (w.alloc (.cells #[.int .i64 x] 2)).cell? ((⟨w.heap.size, 0, none⟩ : Addr).add i) = some u := by
  intro j u hj
  match j, hj with
  | 0, hj => simp at hj; subst hj; simp [Addr.add]
theorem filter_next {L : List Int} {p : Int → Bool} {k : Nat} (hk : k < L.length) : (L.take (k + 1)).filter p = (L.take k).filter p ++ (if p (L.getD k 0) = true then [L.getD k 0] else []) := by
  rw [List.take_add_one, List.filter_append, List.getElem?_eq_getElem hk, List.getD_eq_getElem?_getD, List.getElem?_eq_getElem hk]
  simp only [Option.toList_some, Option.getD_some]
  congr 1
  cases h : p L[k] <;> simp [h]

set_option maxHeartbeats 4000000 in
theorem l8Free_any {w : World} {v : Value} {xs : List Int} (h : IntsAt w v xs) (hl : xs.length ≤ 1048576) (F T : Nat) (ht : T ≤ xs.length) :
    Calls Tryz.prog 97 #[v, .int .i64 F, .int .i64 T] w fun e w' => ∃ v', e = .returned v' ∧ rows.Own w' w.heap.size v' (((walkO xs F T).getD []).filter (isFreeAt xs)) ∧ Below w.heap.size w w' := by
  obtain ⟨i0, hi, hz0, hz1, hz2⟩ := info_parts info
  have HI : Hid _ := And.intro hi (And.intro hz0 (And.intro hz1 hz2))
  have B0 : Below w.heap.size w (w.alloc (.cells #[] 2)) := (Below.refl _ _).alloc (Nat.le_refl _) _
  have O0 := own_nothing w w.heap.size (Nat.le_refl _)
  have WK := l4Walk_any (intsAt_below h B0) hl F T ht
  have HM : ∀ x ∈ (walkO xs F T).getD [], ∃ j : Nat, x = j ∧ j < xs.length := fun x hx => by
    cases e : walkO xs F T with
    | none => rw [e] at hx; simp at hx
    | some l =>
      rw [e] at hx
      obtain ⟨j, a, _, c, _⟩ := walkL_mem xs T ht _ _ _ e x hx
      exact ⟨j, a, by omega⟩
  have hLl : ((walkO xs F T).getD []).length ≤ 1048576 := by
    cases e : walkO xs F T with
    | none => simp
    | some l => have := (walkL_length xs T (by omega) _ _ _ e).1; simp; omega
  obtain ⟨L, hLe⟩ : ∃ L, (walkO xs F T).getD [] = L := ⟨_, rfl⟩
  obtain ⟨isS, hSe⟩ : ∃ L, (walkO xs F T).isSome = L := ⟨_, rfl⟩
  rw [hLe] at HM hLl WK
  rw [hSe] at WK
  rw [hLe]
  have HM : Hid _ := HM
  clear hLe hSe
  have h' := h
  obtain ⟨a, cap, rfl, hlc, hcm, _, _⟩ := h
  have p0 : w.heap.size < (w.alloc (.cells #[] 2)).heap.size := by simp
  clear hi hz0 hz1 hz2
  go_enter Tryz.func97, Tryz.ntmps97
  go_wp2_with fail
  generalize hX : w.alloc (.cells #[] 2) = X at *
  clear hX
  refine WK.mono ?_
  rintro e w1 ⟨vl, rfl, OL, b1⟩
  have HOL : Hid _ := OL
  have HIL : Hid (In X.heap.size w1.heap.size vl) := own_in OL
  have HOO : Hid _ := own_below O0 b1
  have HB1 : Hid (Below w.heap.size w w1) := B0.trans (b1.mono B0.size)
  have s1 := b1.size
  have IL := own_ints OL
  obtain ⟨la, lcap, rfl, llc, lcm, _, _⟩ := IL
  clear WK OL b1 O0 B0
  go_wp2_with fail
  go_loopw [7, 10] (fun u i wr => ∃ (k : Nat) (u0 : Value), u0 = u ∧ k ≤ L.length ∧ i = .int .i64 (k : Int) ∧ rows.Own wr w.heap.size u0 ((L.take k).filter (isFreeAt xs)) ∧ (∀ b, u0.ownBlock = some b → b < X.heap.size ∨ w1.heap.size ≤ b) ∧ rows.Own wr X.heap.size (.slice la L.length lcap) L ∧ w1.heap.size ≤ wr.heap.size ∧ Below w.heap.size w wr) (fun _ i _ => L.length - (intOf i).toNat)
  case atStart => exact ⟨0, _, rfl, Nat.zero_le _, rfl, HOO.out, fun b e => by simp [Value.ownBlock] at e; omega, HOL.out, Nat.le_refl _, HB1.out⟩
  case round =>
    obtain ⟨k, u0, rfl, hk, rfl, hO, hbk, hL, hws, hB⟩ := hrel
    by_cases hlt : k < L.length
    · have hlt' : (k : Int) < (L.length : Int) := by omega
      obtain ⟨la', lcap', e', _, _, _, hcy⟩ := own_ints hL
      injection e' with e1 e2 e3
      subst e1 e3
      obtain ⟨lb, loff, rfl, _, hcy⟩ := hcy (by omega)
      have c0 := hcy k hlt
      have HFN : Hid _ := filter_next (p := isFreeAt xs) hlt
      obtain ⟨j, hj, hjl⟩ := HM.out (L.getD k 0) (by rw [List.getD_eq_getElem?_getD, List.getElem?_eq_getElem hlt]; exact List.getElem_mem hlt)
      have hfr : isFreeAt xs (L.getD k 0) = (uF (xs.getD j 0) == 6) := by rw [hj]; rfl
      rw [hfr] at HFN
      rw [hj] at c0 HFN
      have LH := l4Head_any (intsAt_below h' hB) j hjl
      unfold hw at LH
      clear hfr hj hcy
      generalize uF (xs.getD j 0) = f at *
      generalize uS (xs.getD j 0) = s at *
      generalize uC (xs.getD j 0) = c1 at *
      generalize uH (xs.getD j 0) = g at *
      generalize uP (xs.getD j 0) = p at *
      generalize uM (xs.getD j 0) = m at *
      have FF := field_format s f c1 g p m
      have HO : Hid _ := hO
      have HL : Hid _ := hL
      have HB : Hid _ := hB
      have HBK : Hid _ := hbk
      clear hO hL hB hbk
      go_wp2_with fail
      refine LH.mono ?_
      rintro e w2 ⟨rfl, b2⟩
      have O2 := own_below HO.out b2
      have L2 := own_below HL.out b2
      have B2 := HB.out.trans (b2.mono HB.out.size)
      have sr := HB1.out.size
      have c2 := (b2.cell (p := ⟨lb, loff + k, none⟩) (World.block_lt_of_cell? _ _ c0)).trans c0
      have s2 := b2.size
      clear LH b2 c0
      by_cases h6 : f = 6
      · subst h6
        rw [show ((6 : Int) == 6) = true from rfl, if_pos rfl] at HFN
        generalize hqs : (L.take k).filter (isFreeAt xs) = qs at *
        have hql : qs.length ≤ 1048576 := by rw [← hqs]; exact Nat.le_trans (List.length_filter_le _ _) (by simp; omega)
        clear hqs
        obtain ⟨va, vcp, rfl, _, _, _, _⟩ := own_ints O2
        have HOA : Hid (rows.Own (w2.alloc (.cells #[.int .i64 (j : Int)] 2)) w.heap.size (.slice va qs.length vcp) qs) := World.ownsRow.alloc O2 _
        have hba : w.heap.size ≤ (w2.alloc (.cells #[.int .i64 (j : Int)] 2)).heap.size := by have := B2.size; simp; omega
        have HNW : Hid _ := one_int w2 (j : Int)
        have HSTEP : Hid (∀ (v' : Value) (w5 : World), w5.ownsRow w.heap.size 2 1 v' (qs.length + 1) (cellsOf qs ++ [.int .i64 (j : Int)]) → (w2.alloc (.cells #[.int .i64 (j : Int)] 2)).grownBy w5 (Value.slice va qs.length vcp).ownBlock → (v'.ownBlock = (Value.slice va qs.length vcp).ownBlock ∨ v'.ownBlock = some (w2.alloc (.cells #[.int .i64 (j : Int)] 2)).heap.size) → (∃ a n c, v' = .slice a n c) ∧ rows.Own w5 w.heap.size v' ((L.take (k + 1)).filter (isFreeAt xs)) ∧ (∀ b, v'.ownBlock = some b → b < X.heap.size ∨ w1.heap.size ≤ b) ∧ rows.Own w5 X.heap.size (.slice (some ⟨lb, loff, none⟩) L.length lcap) L ∧ w1.heap.size ≤ w5.heap.size ∧ Below w.heap.size w w5) := fun v' w5 h1 h2 h3 => by
          obtain ⟨on, gr, nb⟩ := app_int h1 h2 h3
          rw [HFN.out]
          obtain ⟨a', c', e', _⟩ := own_ints on
          refine ⟨⟨_, _, _, e'⟩, on, fun b hb => ?_, ?_, Nat.le_trans (Nat.le_trans hws s2) gr.size, below_grown B2 gr (own_lt O2) B2.size⟩
          · rcases nb b hb with e | e
            · exact HBK.out b e
            · right; omega
          · refine World.ownsRow.kept L2 gr ?_
            right
            intro e
            have q1 := HIL.out lb rfl
            have q2 := HBK.out lb (by rw [← e]; rfl)
            omega
        clear O2 L2 HO HL HBK HB HFN
        go_wp2_with (refine wpList_append_own_at _ rfl (.tmp 33) (.tmp 38) 22 rfl w.heap.size 2 i0 (.int .i64 0) 1 8 Tryz.underlying22 HI.out.1 HI.out.2.1 HI.out.2.2.1 HI.out.2.2.2 rfl (by decide) (.slice va qs.length vcp) qs.length (cellsOf qs) rfl HOA.out ⟨w2.heap.size, 0, none⟩ 1 1 [.int .i64 (j : Int)] rfl rfl HNW.out (by simp [Value.oneCell']) (by unfold maxLen; omega) (by omega) hba ?_; intro v' w5 hown hgrow _ hat; obtain ⟨⟨va', vn', vc', rfl⟩, st⟩ := HSTEP.out v' w5 hown hgrow hat; have HST : Hid _ := st; clear st hown hgrow hat)
        exact ⟨⟨k + 1, _, rfl, by omega, by go_num, HST.out⟩, by simp [intOf]; omega⟩
      · have h6' : (f == 6) = false := by simpa using h6
        rw [h6', if_neg (by simp), List.append_nil] at HFN
        have HST : Hid (rows.Own w2 w.heap.size u0 ((L.take (k + 1)).filter (isFreeAt xs)) ∧ (∀ b, u0.ownBlock = some b → b < X.heap.size ∨ w1.heap.size ≤ b) ∧ rows.Own w2 X.heap.size (.slice (some ⟨lb, loff, none⟩) L.length lcap) L ∧ w1.heap.size ≤ w2.heap.size ∧ Below w.heap.size w w2) := ⟨by rw [HFN.out]; exact O2, HBK.out, L2, Nat.le_trans hws s2, B2⟩
        clear O2 L2 HO HL HBK HB HFN B2
        go_wp2
        exact ⟨⟨k + 1, _, rfl, by omega, by go_num, HST.out⟩, by simp [intOf]; omega⟩
    · have e : k = L.length := by omega
      subst e
      rw [List.take_length] at hO
      have HF : Hid _ := hO
      have HB : Hid _ := hB
      have hlt' : ¬ (L.length : Int) < (L.length : Int) := by omega
      clear hO hB hbk hL
      go_wp2
      go_ret
      exact ⟨_, rfl, HF.out, HB.out⟩

end Go.Proofs.YthfhjgkpabkeaaaGreat.walks
