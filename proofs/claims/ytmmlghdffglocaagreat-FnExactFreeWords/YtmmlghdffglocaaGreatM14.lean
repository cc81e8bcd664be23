/-
  Chapter 8 as the program has it: Freed. Chapter 8 as the program has it: FreeIn.
-/
import Derived.Test.YtmmlghdffglocaaGreatM10
import Derived.Test.YtmmlghdffglocaaGreatWalkIChunk
import Derived.Test.YtmmlghdffglocaaGreatM4
import Derived.Test.YtmmlghdffglocaaGreatM13
import Derived.Test.YtmmlghdffglocaaGreatM12
namespace Go.Proofs.YtmmlghdffglocaaGreat.walks
open Go.RowKit rows heads words
set_option maxRecDepth 100000

end Go.Proofs.YtmmlghdffglocaaGreat.walks
namespace Go.Proofs.YtmmlghdffglocaaGreat.walks
open Go.RowKit rows heads words
set_option maxRecDepth 100000

set_option maxHeartbeats 4000000 in
theorem implFreeIn (w : World) (v : Value) (xs : List Int) (f : Int) (t : Int) (h : IntsAt w v xs) (hl : xs.length ≤ 1048576) (ha : AllI xs) (hf : I64 f) (ht : I64 t) :
    Calls Tryz.prog 67 #[v, .int .i64 f, .int .i64 t] w fun e w' => ∃ v', e = .returned v' ∧ rows.Own w' w.heap.size v' (freeIn xs f t) ∧ Below w.heap.size w w' := by
  obtain ⟨i0, hi, hz0, hz1, hz2⟩ := info_parts info
  have HI : Hid _ := And.intro hi (And.intro hz0 (And.intro hz1 hz2))
  have WK := implWalk w v xs f t h hl ha hf ht
  have HM : ∀ x ∈ walked xs f t, ∃ j : Nat, x = j ∧ j < xs.length ∧ okAt xs j = true ∧ chunk xs j ≠ 0 := fun x hx => by
    obtain ⟨j, e1, e2, e3, e4⟩ := walked_mem hx
    exact ⟨j, e1, e2, by simp only [okAt, Bool.and_eq_true]; exact ⟨e3, by simp [atOk]; omega⟩, e4⟩
  have hLl : (walked xs f t).length ≤ 1048576 := Nat.le_trans (walked_length xs f t).1 (by decide)
  unfold freeIn
  obtain ⟨L, hLe⟩ : ∃ L, walked xs f t = L := ⟨_, rfl⟩
  obtain ⟨isS, hSe⟩ : ∃ L, walkOk xs f t = L := ⟨_, rfl⟩
  rw [hLe] at HM hLl WK
  rw [hSe] at WK
  rw [hLe]
  have HM : Hid _ := HM
  clear hLe hSe hi hz0 hz1 hz2
  have h' := h
  obtain ⟨a, cap, rfl, hlc, hcm, _, _⟩ := h
  have HC : Hid (∀ (W : World) (j : Nat), Below w.heap.size w W → okAt xs j = true → Calls Tryz.prog 98 #[.slice a xs.length cap, .int .i64 j] W fun e w' => e = .returned (chRes a xs j) ∧ Below W.heap.size W w') := fun W j hW d => chunkOf_in (intsAt_below h' hW) hl ha j d
  go_enter Tryz.func67, Tryz.ntmps67
  go_wp2_with fail
  refine WK.mono ?_
  rintro e w1 ⟨vl, rfl, OL, b1⟩
  have s1 := b1.size
  have HOL : Hid _ := own_below OL ((Below.refl w1.heap.size w1).alloc (Nat.le_refl _) (.cells #[] 2))
  have HIL : Hid (rows.In w.heap.size w1.heap.size vl) := own_in OL
  have HOO : Hid _ := own_nothing w1 w.heap.size s1
  have HB1 : Hid (Below w.heap.size w (w1.alloc (.cells #[] 2))) := Below.alloc b1 s1 _
  obtain ⟨la, lcap, rfl, llc, lcm, _, _⟩ := own_ints OL
  clear WK OL b1
  go_wp2_with fail
  go_loopw [9, 24] (fun u i wr => ∃ (k : Nat) (u0 : Value), u0 = u ∧ k ≤ L.length ∧ i = .int .i64 (k : Int) ∧ rows.Own wr w.heap.size u0 ((L.take k).filter (isFreeAt xs)) ∧ (∀ b, u0.ownBlock = some b → w1.heap.size ≤ b) ∧ rows.Own wr w.heap.size (.slice la L.length lcap) L ∧ w1.heap.size ≤ wr.heap.size ∧ Below w.heap.size w wr) (fun _ i _ => L.length - (intOf i).toNat)
  case atStart => exact ⟨0, _, rfl, Nat.zero_le _, rfl, HOO.out, fun b e => by simp [Value.ownBlock] at e; omega, HOL.out, by simp, HB1.out⟩
  case round =>
    obtain ⟨k, u0, rfl, hk, rfl, hO, hbk, hL, hws, hB⟩ := hrel
    by_cases hlt : k < L.length
    · have hlt' : (k : Int) < (L.length : Int) := by omega
      obtain ⟨la', lcap', e', _, _, _, hcy⟩ := own_ints hL
      injection e' with e1 e2 e3
      subst e1 e3
      obtain ⟨lb, loff, rfl, _, hcy⟩ := hcy (by omega)
      have c0 := hcy k hlt
      have HFN : Hid _ := filter_next (p := isFreeAt xs) hlt
      obtain ⟨j, hj, hjl, hjo, hj0⟩ := HM.out (L.getD k 0) (by rw [List.getD_eq_getElem?_getD, List.getElem?_eq_getElem hlt]; exact List.getElem_mem hlt)
      have hfr : isFreeAt xs (L.getD k 0) = (uF (xs.getD j 0) == 6) := by rw [hj]; rfl
      rw [hfr] at HFN
      rw [hj] at c0 HFN
      have CH := HC.out _ j hB hjo
      unfold chRes at CH
      rw [if_neg hj0] at CH
      unfold piece at CH
      clear hfr hj hcy hj0 hjo
      generalize uF (xs.getD j 0) = f6 at *
      generalize uS (xs.getD j 0) = s at *
      generalize uC (xs.getD j 0) = c1 at *
      generalize uH (xs.getD j 0) = g at *
      generalize uP (xs.getD j 0) = p at *
      generalize uM (xs.getD j 0) = m at *
      generalize (chunk xs j).toNat = N at *
      generalize (if N = 0 then a else Option.map (fun x => x.add j) a) = ad at *
      have HO : Hid _ := hO
      have HL : Hid _ := hL
      have HB : Hid _ := hB
      have HBK : Hid _ := hbk
      have sr := hB.size
      clear hO hL hB hbk
      go_wp2_with fail
      refine CH.mono ?_
      rintro e w2 ⟨rfl, b2⟩
      have s2 := b2.size
      have b3 : Below wr.heap.size wr ((w2.alloc (cb s f6 c1 g p m (.slice ad N N))).alloc (cb s f6 c1 g p m (.slice ad N N))) := (b2.alloc s2 _).alloc (by simp; omega) _
      clear CH b2
      go_wp2_with fail
      refine (isFree_any _ _ _ _ _ _ _ _).mono ?_
      rintro e Y ⟨rfl, hY⟩
      rw [← hY] at b3
      clear hY
      have O2 := own_below HO.out b3
      have L2 := own_below HL.out b3
      have B2 := HB.out.trans (b3.mono sr)
      have c2 := (b3.cell (p := ⟨lb, loff + k, none⟩) (World.block_lt_of_cell? _ _ c0)).trans c0
      have s3 := b3.size
      clear b3 c0
      by_cases h6 : f6 = 6
      · subst h6
        rw [show ((6 : Int) == 6) = true from rfl, if_pos rfl] at HFN
        generalize hqs : (L.take k).filter (isFreeAt xs) = qs at *
        have hql : qs.length ≤ 1048576 := by rw [← hqs]; exact Nat.le_trans (List.length_filter_le _ _) (by simp; omega)
        clear hqs
        obtain ⟨va, vcp, rfl, _, _, _, _⟩ := own_ints O2
        have HOA : Hid (rows.Own (Y.alloc (.cells #[.int .i64 (j : Int)] 2)) w.heap.size (.slice va qs.length vcp) qs) := World.ownsRow.alloc O2 _
        have hba : w.heap.size ≤ (Y.alloc (.cells #[.int .i64 (j : Int)] 2)).heap.size := by have := B2.size; simp; omega
        have HNW : Hid _ := one_int Y (j : Int)
        have HSTEP : Hid (∀ (v' : Value) (w5 : World), w5.ownsRow w.heap.size 2 1 v' (qs.length + 1) (cellsOf qs ++ [.int .i64 (j : Int)]) → (Y.alloc (.cells #[.int .i64 (j : Int)] 2)).grownBy w5 (Value.slice va qs.length vcp).ownBlock → (v'.ownBlock = (Value.slice va qs.length vcp).ownBlock ∨ v'.ownBlock = some (Y.alloc (.cells #[.int .i64 (j : Int)] 2)).heap.size) → (∃ a n c, v' = .slice a n c) ∧ rows.Own w5 w.heap.size v' ((L.take (k + 1)).filter (isFreeAt xs)) ∧ (∀ b, v'.ownBlock = some b → w1.heap.size ≤ b) ∧ rows.Own w5 w.heap.size (.slice (some ⟨lb, loff, none⟩) L.length lcap) L ∧ w1.heap.size ≤ w5.heap.size ∧ Below w.heap.size w w5) := fun v' w5 h1 h2 h3 => by
          obtain ⟨on, gr, nb⟩ := app_int h1 h2 h3
          rw [HFN.out]
          obtain ⟨a', c', e', _⟩ := own_ints on
          refine ⟨⟨_, _, _, e'⟩, on, fun b hb => ?_, ?_, Nat.le_trans (Nat.le_trans hws s3) gr.size, below_grown B2 gr (own_lt O2) B2.size⟩
          · rcases nb b hb with e | e
            · exact HBK.out b e
            · omega
          · refine World.ownsRow.kept L2 gr ?_
            right
            intro e
            have q1 := HIL.out lb rfl
            have q2 := HBK.out lb (by rw [← e]; rfl)
            omega
        clear O2 L2 HO HL HBK HB HFN
        go_wp2_with (refine wpList_append_own_at _ rfl (.tmp 36) (.tmp 38) 22 rfl w.heap.size 2 i0 (.int .i64 0) 1 8 Tryz.underlying22 HI.out.1 HI.out.2.1 HI.out.2.2.1 HI.out.2.2.2 rfl (by decide) (.slice va qs.length vcp) qs.length (cellsOf qs) rfl HOA.out ⟨Y.heap.size, 0, none⟩ 1 1 [.int .i64 (j : Int)] rfl rfl HNW.out (by simp [Value.oneCell']) (by unfold maxLen; omega) (by omega) hba ?_; intro v' w5 hown hgrow _ hat; obtain ⟨⟨va', vn', vc', rfl⟩, st⟩ := HSTEP.out v' w5 hown hgrow hat; have HST : Hid _ := st; clear st hown hgrow hat)
        exact ⟨⟨k + 1, _, rfl, by omega, by go_num, HST.out⟩, by simp [intOf]; omega⟩
      · have h6' : (f6 == 6) = false := by simpa using h6
        rw [h6', if_neg (by simp), List.append_nil] at HFN
        have HST : Hid (rows.Own Y w.heap.size u0 ((L.take (k + 1)).filter (isFreeAt xs)) ∧ (∀ b, u0.ownBlock = some b → w1.heap.size ≤ b) ∧ rows.Own Y w.heap.size (.slice (some ⟨lb, loff, none⟩) L.length lcap) L ∧ w1.heap.size ≤ Y.heap.size ∧ Below w.heap.size w Y) := ⟨by rw [HFN.out]; exact O2, HBK.out, L2, Nat.le_trans hws s3, B2⟩
        clear O2 L2 HO HL HBK HB HFN B2
        go_wp2
        exact ⟨⟨k + 1, _, rfl, by omega, by go_num, HST.out⟩, by simp [intOf]; omega⟩
    · have e : k = L.length := by omega
      subst e
      rw [List.take_length] at hO
      have HF : Hid _ := hO
      have HB : Hid _ := hB
      have hlt' : ¬ (L.length : Int) < (L.length : Int) := by omega
      clear hO hB hbk hL
      go_wp2
      go_ret
      exact ⟨_, rfl, HF.out, HB.out⟩
end Go.Proofs.YtmmlghdffglocaaGreat.walks
