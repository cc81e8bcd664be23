/-
  The draw of a list of classes.
  Made from the template DrawClass.
-/
import Derived.Test.YtdogibjgogcdkabDrawName
import Derived.Test.YtdogibjgogcdkabDrawInt
import Derived.Test.YtdogibjgogcdkabDrawReg9
import Derived.Test.YtdogibjgogcdkabClassF
import Derived.Test.YtdogibjgogcdkabEntsM
import Derived.Deep.RegionLaw
import Derived.Deep.CutRange
namespace Go.Proofs.Ytdogibjgogcdkab.draw
open Go.RowKit rows ents

theorem grownBy_belowE {w wr w' : World} {r : Option Nat} (h : w.grownBy wr r) (hb : Below wr.heap.size wr w') : w.grownBy w' r :=
  ⟨hb.os.trans h.os, hb.tape.trans h.tape, hb.output.trans h.output, Nat.le_trans h.size hb.size, fun k hk hne => (hb.block k (Nat.lt_of_lt_of_le hk h.size)).trans (h.block k hk hne)⟩
theorem cur_belowE {base : Nat} {w w' : World} {bk : Nat} {a : Option Addr} {len cap : Nat} (h : Cur w bk a len cap) (hb : Below base w w') (hl : bk < base) : Cur w' bk a len cap := by
  obtain ⟨i, g, hB, hi⟩ := h
  exact ⟨i, g, (hb.block bk hl).trans hB, hi⟩
theorem ownE_cur {w w' : World} {base bk : Nat} {v : Value} {es : List Ent} (h : OwnE w base v es) (hb : bk < base) (hg : w.grownBy w' (some bk)) : OwnE w' base v es := by
  refine World.ownsRow.kept h hg ?_
  cases e : v.ownBlock with
  | none => exact .inl rfl
  | some k => have := World.ownsRow.lt h k e; exact .inr (fun e' => by injection e' with e'; omega)

set_option maxRecDepth 100000 in
set_option maxHeartbeats 16000000 in
theorem l5Draw_any {W w : World} {bk : Nat} {a : Option Addr} {len cap : Nat} {zs : List Int} (hr : IsRow .u8 W a len cap zs) (hW : Below W.heap.size W w) (hbk : W.heap.size ≤ bk) (hc : Cur w bk a len cap) :
    Calls Try.prog 82 #[.pointer (some ⟨bk, 0, none⟩)] w fun e w' => ∃ (v : Value) (es : List Ent), Borne es ∧ es.length ≤ 64 ∧ namesLen es ≤ 65536 ∧ e = .returned v ∧ OwnE w' w.heap.size v es ∧ w.grownBy w' (some bk) ∧ Cur w' bk a len cap := by
  have step : ∀ {w' : World}, w.grownBy w' (some bk) → Below W.heap.size W w' := fun hg => hW.grown hg hW.size (fun k e => by cases e; exact hbk)
  obtain ⟨i0, hi, hz0, hz1, hz2⟩ := info_parts infoE
  have lbk := cur_lt hc
  have OWN : OwnE (w.alloc (.cells #[] 49)) w.heap.size (.slice (some ⟨w.heap.size, 0, none⟩) 0 0) [] := ownE_new (Below.refl w.heap.size w)
  go_enter Try.func82, Try.ntmps82
  go_wp2_with fail
  refine (below_any 8 hr (step (grownBy_alloc (grownBy_refl _ _) _)) hbk (cur_alloc hc _)).mono ?_
  rintro e w1 ⟨n, hn0, _, hn1, rfl, hg1, hc1⟩
  have hn2 := hn1 (by decide)
  clear hn1
  have O1 := ownE_cur OWN lbk hg1
  have hg1 := grownBy_trans (grownBy_alloc (grownBy_refl _ _) _) hg1
  obtain ⟨N, rfl⟩ := Int.eq_ofNat_of_zero_le hn0
  clear OWN hn0
  go_wp2_with fail
  go_loopw [3, 4] (fun v i wr => ∃ (k : Nat) (es : List Ent) (v3 : Value), v3 = v ∧ k ≤ N ∧ Hid (clsOk es = true) ∧ i = .int .i64 (k : Int) ∧ OwnE wr w.heap.size v es ∧ w.grownBy wr (some bk) ∧ Cur wr bk a len cap) (fun _ i _ => (intOf i).toNat)
  case atStart => exact ⟨N, [], _, rfl, Nat.le_refl _, rfl, rfl, O1, hg1, hc1⟩
  case round =>
    obtain ⟨k, es, v3, rfl, hk, hok, rfl, Or, Gr, Cr⟩ := hrel
    by_cases hlt : 0 < k
    · have hlt' : (k : Int) > 0 := by omega
      go_wp2_with fail
      refine (name_any hr (step Gr) hbk Cr).mono ?_
      rintro e w2 ⟨s, hs, rfl, hg2, hc2⟩
      have O2 := ownE_cur Or lbk hg2
      have G2 := grownBy_trans Gr hg2
      clear hg2 Or Gr Cr
      go_wp2_with fail
      refine (sClaimed_any (ownE_ents O2) (clsOk_borne hok.out).1 s (by omega)).mono ?_
      rintro e w3 ⟨v4, rfl, O3, b3⟩
      have O3 := ownE_base O3 G2.size
      have G3 := grownBy_belowE G2 b3
      have C3 := cur_belowE hc2 b3 (cur_lt hc2)
      have hok2 : Hid _ := clm_right s hok.out
      clear b3 O2 G2 hc2 hok
      generalize clm es s = fs at *
      generalize clmIx es s = x at *
      go_wp2_with fail
      refine (once_any 4 hr (step G3) hbk C3).mono ?_
      rintro e w4 ⟨b4, rfl, hg4, hc4⟩
      have O4 := ownE_cur O3 lbk hg4
      have G4 := grownBy_trans G3 hg4
      clear hg4 O3 G3 C3
      cases b4
      · go_wp2
        go_roundw
        case rel => exact ⟨k - 1, fs, v4, rfl, by omega, hok2, by go_num, O4, G4, hc4⟩
        case measure => simp [intOf]; omega
      · go_wp2_with fail
        refine (below_any 5 hr (step G4) hbk hc4).mono ?_
        rintro e w5 ⟨y, hy0, _, hy1, rfl, hg5, hc5⟩
        clear hy1
        have O5 := ownE_cur O4 lbk hg5
        have G5 := grownBy_trans G4 hg5
        clear hg5 O4 G4 hc4
        go_wp2_with fail
        refine (sReleased_any (ownE_ents O5) (clsOk_borne hok2.out).1 y).mono ?_
        rintro e w6 ⟨v6, rfl, O6, b6⟩
        have O6 := ownE_base O6 G5.size
        have G6 := grownBy_belowE G5 b6
        have C6 := cur_belowE hc5 b6 (cur_lt hc5)
        have hok3 : Hid _ := released_right y hok2.out
        clear b6 O5 G5 hc5 hok2
        generalize released fs y = gs at *
        generalize relOk fs y = q at *
        go_wp2
        go_roundw
        case rel => exact ⟨k - 1, gs, v6, rfl, by omega, hok3, by go_num, O6, G6, C6⟩
        case measure => simp [intOf]; omega
    · have hlt' : ¬ (k : Int) > 0 := by omega
      go_wp2_with fail
      refine (once_any 12 hr (step Gr) hbk Cr).mono ?_
      rintro e w2 ⟨b2, rfl, hg2, hc2⟩
      have O2 := ownE_cur Or lbk hg2
      have G2 := grownBy_trans Gr hg2
      clear hg2 Or Gr Cr
      obtain ⟨be, le, ne⟩ := clsOk_borne hok.out
      clear hok
      cases b2
      case' false =>
        have O3 := O2
        have G3 := G2
        have C3 := hc2
        have be' : Hid (Borne es) := be
        have le' : es.length ≤ 63 := by omega
        have ne' : namesLen es ≤ 65000 := by omega
        clear O2 G2 hc2 be le ne
      case' true =>
        go_wp2_with fail
        go_cut [3] from 31 to 46 (fun v wr => ∃ (fs : List Ent) (v5 : Value), v5 = v ∧ Hid (Borne fs) ∧ fs.length ≤ 63 ∧ namesLen fs ≤ 65000 ∧ OwnE wr w.heap.size v fs ∧ w.grownBy wr (some bk) ∧ Cur wr bk a len cap)
        case first =>
          refine reg9 (w00 := w) (es := es) (v3 := v3) (bk := bk) (by simp) ?_ rfl ⟨_, rfl, rfl, rfl, by simp⟩ ⟨_, rfl, rfl, rfl, by simp⟩ ⟨_, rfl, rfl, rfl, by simp⟩ ⟨_, rfl, rfl, rfl, by simp [Region.binds]⟩ ⟨_, rfl, rfl, rfl, by simp [Region.binds]⟩ ⟨_, rfl, rfl, rfl, by simp [Region.binds]⟩ ⟨_, rfl, rfl, rfl, by simp⟩ ⟨_, rfl, rfl, rfl, by simp [Region.binds]⟩ ⟨_, rfl, rfl, rfl, by simp [Region.binds]⟩ ⟨_, rfl, rfl, rfl, by simp⟩ ⟨_, rfl, rfl, rfl, by simp [Region.binds]⟩ ⟨_, rfl, rfl, rfl, by simp [Region.binds]⟩ ⟨_, rfl, rfl, rfl, by simp [Region.binds]⟩ ⟨_, rfl, rfl, rfl, by simp [Region.binds]⟩ ⟨_, rfl, rfl, rfl, by simp [Region.binds]⟩ ⟨_, rfl, rfl, rfl, by simp [Region.binds]⟩ ⟨_, rfl, rfl, rfl, by simp [Region.binds]⟩ (by simp) rfl rfl hr hbk hW lbk G2 hc2 O2 be le ne ?_
          · intro k o ho e he
            have hk : k < 17 := (Array.getElem?_eq_some_iff.1 ho).1
            rcases (show k = 0 ∨ k = 1 ∨ k = 2 ∨ k = 3 ∨ k = 4 ∨ k = 5 ∨ k = 6 ∨ k = 7 ∨ k = 8 ∨ k = 9 ∨ k = 10 ∨ k = 11 ∨ k = 12 ∨ k = 13 ∨ k = 14 ∨ k = 15 ∨ k = 16 by omega) with rfl | rfl | rfl | rfl | rfl | rfl | rfl | rfl | rfl | rfl | rfl | rfl | rfl | rfl | rfl | rfl | rfl
            all_goals
              injection ho with ho
              subst ho
              simp at he
              try omega
            all_goals
              first
                | (subst he; decide)
                | (rcases he with rfl | rfl <;> decide)
                | (rcases he with rfl | rfl | rfl <;> decide)
                | (rcases he with rfl | rfl | rfl | rfl | rfl | rfl | rfl | rfl | rfl | rfl | rfl | rfl | rfl | rfl | rfl | rfl | rfl | rfl <;> decide)
          · rintro u w' ⟨fs, f1, f2, f3, f4⟩ g' c'
            rename_i J K' HJ HK
            exact HK _ _ (Met.intro (HJ _ _ ⟨u 3, u 31, u 32, u 33, u 34, u 35, u 36, u 37, u 38, u 39, u 40, u 41, u 42, u 43, u 44, u 45, u 46, ⟨fs, _, rfl, f1, f2, f3, f4, g', c'⟩, rfl⟩))
        obtain ⟨es, v3, rfl, be', le', ne', O3, G3, C3⟩ := hcut
      all_goals
        go_wp2_with fail
        refine (once_any 40 hr (step G3) hbk C3).mono ?_
        rintro e w4 ⟨b4, rfl, hg4, hc4⟩
        have O4 := ownE_cur O3 lbk hg4
        have G4 := grownBy_trans G3 hg4
        clear hg4 O3 G3 C3
        cases b4
        · go_wp2
          go_ret
          exact ⟨_, es, be'.out, by omega, by omega, rfl, O4, G4, hc4⟩
        · have O5 : OwnE (w4.alloc (.cells #[] 49)) w.heap.size (.slice (some ⟨w4.heap.size, 0, none⟩) 0 0) [] := ownE_base (ownE_new (Below.refl w4.heap.size w4)) G4.size
          clear O4 be'
          go_wp2_with fail
          go_loopw [3, 5] (fun v i wr => ∃ (k g c : Nat) (fs : List Ent), v = .slice (some ⟨g, 0, none⟩) k c ∧ k ≤ 40 ∧ fs.length = k ∧ i = .int .i64 (k : Int) ∧ Hid (∀ e ∈ fs, (0 ≤ e.1 ∧ e.1 ≤ 99) ∧ e.2.size ≤ 3) ∧ wr.ownsRow w.heap.size 49 2 (.slice (some ⟨g, 0, none⟩) k c) k (cellsE fs) ∧ w.grownBy wr (some bk) ∧ Cur wr bk a len cap) (fun _ i _ => 40 - (intOf i).toNat)
          case atStart => exact ⟨0, _, 0, [], rfl, Nat.zero_le _, rfl, rfl, (fun e he => by cases he), O5, grownBy_alloc G4 _, cur_alloc hc4 _⟩
          case round =>
            obtain ⟨k, g, c, fs, rfl, hk, hfl, rfl, hfs, Or, Gr, Cr⟩ := hrel
            by_cases hlt : k < 40
            · go_wp2_with fail
              refine (l1Int_any k (by omega) _).mono ?_
              rintro e w6 ⟨s, hs, rfl, b6⟩
              have G6 := grownBy_belowE Gr b6
              have C6 := cur_belowE Cr b6 (cur_lt Cr)
              have O6 := row_below Or b6
              have I6 := World.ownsRow.lt O6
              have hs1 : (⟨#[110]⟩ : ByteArray).size = 1 := rfl
              have hs2 : ¬ (⟨#[110]⟩ : ByteArray).size + s.size > 9223372036854775807 := by omega
              have hsz : ((⟨#[110]⟩ : ByteArray) ++ s).size ≤ 3 := by rw [ByteArray.size_append]; omega
              have sz6 := G6.size
              clear b6 Or Gr Cr
              generalize hnm : ((⟨#[110]⟩ : ByteArray) ++ s) = nm at *
              have NEWS : ∀ j u, (cellsE [((k : Int), nm)])[j]? = some u → (w6.alloc (eb ((k : Int), nm))).cell? ((⟨w6.heap.size, 0, none⟩ : Addr).add j) = some u := ents_news (ent_one w6 ((k : Int), nm))
              go_wp2_with (at_builtin; refine wpList_append_own _ rfl _ _ 38 rfl w.heap.size 49 i0 (.agg #[.int .i64 0, .string ByteArray.empty]) 2 24 Try.underlying38 hi hz0 hz1 hz2 rfl (by decide) _ k (cellsE fs) rfl (World.ownsRow.alloc O6 _) ⟨w6.heap.size, 0, none⟩ 1 1 (cellsE [((k : Int), nm)]) rfl rfl NEWS (cellsE_one _) (by unfold maxLen; omega) (by omega) (by simp; omega) ?_; intro v' w7 hown hgrow hnn)
              have G7 := grownBy_own (grownBy_alloc G6 _) hgrow I6
              have C7 := cur_own (cur_alloc C6 _) hgrow I6 lbk
              have hown2 := hown
              obtain ⟨_, ⟨_, h1⟩ | ⟨g', c', cur, h1, hg, hh, hle, hm, hsz', ht⟩⟩ := hown
              · omega
              · subst h1
                have O7 : w7.ownsRow w.heap.size 49 2 (.slice (some ⟨g', 0, none⟩) (k + 1) c') (k + 1) (cellsE (fs ++ [((k : Int), nm)])) := by
                  rw [cellsE_append]
                  exact hown2
                have HF : Hid (∀ e ∈ fs ++ [((k : Int), nm)], (0 ≤ e.1 ∧ e.1 ≤ 99) ∧ e.2.size ≤ 3) := by
                  intro e he
                  rw [List.mem_append, List.mem_singleton] at he
                  rcases he with he | rfl
                  · exact hfs.out e he
                  · exact ⟨⟨by simp, by simp; omega⟩, hsz⟩
                clear hown2 hgrow O6 I6 G6 C6 NEWS hnn hh hsz' ht hfs
                go_wp2
                go_roundw
                case rel => exact ⟨k + 1, g', c', fs ++ [((k : Int), nm)], rfl, by omega, by simp; omega, by go_num, HF, O7, G7, C7⟩
                case measure => simp [intOf]; omega
            · have HB : Hid _ := hfs
              clear hfs
              go_wp2
              go_ret
              refine ⟨_, fs, ?_, by omega, ?_, rfl, ?_, Gr, Cr⟩
              · intro j hj
                have := HB.out _ (List.getElem_mem hj)
                rw [getD_of hj]
                exact ⟨⟨by omega, by omega⟩, by omega⟩
              · have := names_le 3 (es := fs) (fun e he => (HB.out e he).2)
                omega
              · unfold OwnE
                rw [hfl]
                exact Or
end Go.Proofs.Ytdogibjgogcdkab.draw
