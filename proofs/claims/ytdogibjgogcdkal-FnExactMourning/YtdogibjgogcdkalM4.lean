/-
  Chapter 1 as the specification has it: a number into a list that rises. Chapter 7 as the specification has it: what is reached, round by round. Chapter 7 as the specification has it: l7Reached and Reached. Chapter 7 as the specification has it: Reached. 'append([]int64{}, list...)': a list of its own, and nothing that there was is changed. A number into a list at a place, as the specification writes it in one statement that draws: by facts. Chapter 7 as the specification has it: l7Grieving. Chapter 7 as the specification has it: l7Mourn. Chapter 7 as the specification has it: Mourning.
-/
import Derived.Test.YtdogibjgogcdkalM3
import Derived.Test.YtdogibjgogcdkalRefsA
import Derived.Deep.RegionLaw
import Derived.Deep.Cut
import Derived.Deep.CutRange
import Derived.Test.YtdogibjgogcdkalReachI3
import Derived.Laws.AppendOwnNone
import Derived.Test.YtdogibjgogcdkalGraphS2
import Derived.Test.YtdogibjgogcdkalCopied
import Derived.Deep.Upon
import Derived.Below
import Derived.Test.YtdogibjgogcdkalM1
import Derived.Test.YtdogibjgogcdkalObjsX
import Derived.Maps.AppendAt
import Derived.Deep.QuietTactic
import Derived.BigQuiet
import Derived.Test.YtdogibjgogcdkalGraphIEdit2
namespace Go.Proofs.Ytdogibjgogcdkal.gr
open Go.RowKit rows heads
set_option maxRecDepth 100000
set_option linter.unusedVariables false

theorem own_put {w : World} {base m : Nat} {v : Value} {T D R : List Int} {n : Int} (e : R = T ++ n :: D) (hm : (T ++ n :: D).length = m) (h : w.ownsRow base 2 1 v m ((cellsOf T ++ [.int .i64 n]) ++ cellsOf D)) : Own w base v R := by
  subst e hm
  unfold Own
  have e : cellsOf (T ++ n :: D) = (cellsOf T ++ [.int .i64 n]) ++ cellsOf D := by simp [cellsOf]
  rw [e]
  exact h
theorem row_base {w : World} {base base' n : Nat} {t : TypeId} {v : Value} {cs : List Value} (h : w.ownsRow base t 1 v n cs) (hb : base' ≤ base) : w.ownsRow base' t 1 v n cs := by
  obtain ⟨h0, ⟨h1, h2⟩ | ⟨g, cap, cur, h1, hg, hh⟩⟩ := h
  · exact ⟨h0, .inl ⟨h1, h2⟩⟩
  · exact ⟨h0, .inr ⟨g, cap, cur, h1, Nat.le_trans hb hg, hh⟩⟩
theorem row_slice {w : World} {base n : Nat} {t : TypeId} {v : Value} {xs : List Value} (h : w.ownsRow base t 1 v n xs) : ∃ a c, v = .slice a n c := by
  obtain ⟨h0, ⟨h1, h2⟩ | ⟨g, cap, cur, h1, _⟩⟩ := h
  · exact ⟨none, 0, by rw [h1, h2]⟩
  · exact ⟨_, _, h1⟩
theorem num_new (W : World) (t : TypeId) (x : Int) : ∀ j u, [Value.int .i64 x][j]? = some u → (W.alloc (.cells #[.int .i64 x] t)).cell? ((⟨W.heap.size, 0, none⟩ : Addr).add j) = some u := by
  intro j u h
  match j with
  | 0 =>
    simp at h
    subst h
    simp [Addr.add]
  | j + 1 => simp at h
/-- Behind an append onto a row from B on. -/
theorem below_app {B : Nat} {w W w' : World} {v : Value} {n : Nat} {t : TypeId} {cs : List Value} (h : Below B w W) (hr : W.ownsRow B t 1 v n cs) (hB : B ≤ W.heap.size) (hg : W.grownBy w' v.ownBlock) : Below B w w' :=
  h.trans (below_ch (ch_grown hg) hB (fun k hk => (blk_lt hr k hk).1))

set_option maxHeartbeats 8000000 in
theorem l1Put_any {w : World} {base : Nat} {v : Value} {xs : List Int} (h : Own w base v xs) (hb : base ≤ w.heap.size) (hl : xs.length ≤ 1000000) (n : Int) :
    Calls Try.prog 61 #[v, .int .i64 n] w fun e w' => ∃ v', e = .returned v' ∧ Own w' base v' (putI n xs) ∧ Below w.heap.size w w' := by
  have hI := own_ints h
  have HO : Hid _ := h
  have HI : Hid _ := hI
  obtain ⟨a, cap, rfl, hlc, hcm, hnil, hc⟩ := hI
  have HC : Hid _ := hc
  have hcb : cap ≤ 9223372036854775807 := hcm
  obtain ⟨i0, hi0, hz0, hz1, hz2⟩ := info_parts info
  have HI0 : Hid _ := hi0
  have HZ0 : Hid _ := hz0
  have HZ1 : Hid _ := hz1
  have HZ2 : Hid _ := hz2
  obtain ⟨RX, hRX⟩ : ∃ RX, putI n xs = RX := ⟨_, rfl⟩
  rw [hRX]
  have HRX : Hid _ := hRX
  clear hc h hi0 hz0 hz1 hz2 hRX
  go_enter Try.func61, Try.ntmps61
  go_wp2_with fail
  go_loopw [5] (fun p wr => ∃ k : Nat, k ≤ xs.length ∧ p = .int .i64 k ∧ (∀ j, j < k → xs.getD j 0 < n) ∧ wr = w) (fun p _ => xs.length - (intOf p).toNat)
  case atStart => exact ⟨0, Nat.zero_le _, rfl, fun j hj => by omega, rfl⟩
  case round =>
    obtain ⟨k, hk, rfl, hall, hw⟩ := hrel
    subst hw
    by_cases hgo : k < xs.length ∧ xs.getD k 0 < n
    · obtain ⟨hlt, hy⟩ := hgo
      obtain ⟨b, off, rfl, _, hcc⟩ := HC.out (by omega)
      have c0 := hcc k hlt
      have HV : Hid (∀ j, j < k + 1 → xs.getD j 0 < n) := fun j hj => by
        by_cases e : j = k
        · rw [e]; exact hy
        · exact hall j (by omega)
      clear hcc HC hall
      generalize xs.getD k 0 = y at *
      go_wp2
      exact ⟨⟨k + 1, by omega, by go_num, HV, by trivial⟩, by simp [intOf]; omega⟩
    · have hput := putI_at hk hall (fun h1 h2 => hgo ⟨h1, h2⟩)
      by_cases heq : k < xs.length ∧ xs.getD k 0 = n
      · obtain ⟨hlt, hy⟩ := heq
        obtain ⟨b, off, rfl, _, hcc⟩ := HC.out (by omega)
        have c0 := hcc k hlt
        rw [hy] at c0
        rw [if_pos ⟨hlt, hy⟩] at hput
        have HF : Hid (RX = xs) := HRX.out.symm.trans hput
        have hnn : (n == n) = true := by simp
        have hn2 : ¬ n < n := by omega
        clear hcc HC hall hput hgo hy
        go_wp2
        go_ret
        exact ⟨_, rfl, by rw [HF.out]; exact HO.out, Below.refl _ _⟩
      · rw [if_neg heq] at hput
        have HF : Hid _ := HRX.out.symm.trans hput
        have hmin : min k xs.length = k := by omega
        by_cases hlt : k < xs.length
        · obtain ⟨b, off, rfl, _, hcc⟩ := HC.out (by omega)
          have c0 := hcc k hlt
          have hy1 : ¬ xs.getD k 0 < n := fun e => hgo ⟨hlt, e⟩
          have hy2 : (xs.getD k 0 == n) = false := by
            have : ¬ xs.getD k 0 = n := fun e => heq ⟨hlt, e⟩
            simpa using this
          have hck : ¬ cap = k := by omega
          have HP1 : Hid (IntsAt wr (.slice (some ⟨b, off + k, none⟩) (xs.length - k) (cap - k)) (xs.drop k)) := ints_drop HI.out hk (fun _ => rfl) (fun e => by cases e)
          have HP2 : Hid (IntsAt wr (.slice (some ⟨b, off, none⟩) k cap) (xs.take k)) := ints_take HI.out hk
          clear hcc HC hall hput hgo heq
          generalize xs.getD k 0 = y at *
          go_wp2_with (first
            | (refine wpList_copiedN (a := (some ⟨b, off + k, none⟩)) (n := (xs.length - k)) (cap := (cap - k)) (xs := (xs.drop k)) HP1.out (by omega) rfl (.tmp 34) (.tmp 37) rfl rfl rfl ?_; intro g1 cap1 w1 hg1 hO1 hB1; have HR1 : Hid (IntsAt w1 (.slice (some ⟨g1, 0, none⟩) (xs.length - k) cap1) (xs.drop k)) := own_ints (own_row hO1 (by simp)); have HP3 : Hid (IntsAt w1 (.slice (some ⟨b, off, none⟩) k cap) (xs.take k)) := intsAt_below HP2.out hB1; have HB1 : Hid _ := hB1; have sz1 := hB1.size; clear hO1 hB1 hg1)
            | (refine wpList_copiedN (a := (some ⟨b, off, none⟩)) (n := k) (cap := cap) (xs := (xs.take k)) HP3.out (by omega) rfl (.tmp 39) (.tmp 42) rfl rfl rfl ?_; intro g2 cap2 w2 hg2 hO2 hB2; have HO2 : Hid ((w2.alloc (.cells #[.int .i64 n] 2)).ownsRow w1.heap.size 2 1 (.slice (some ⟨g2, 0, none⟩) k cap2) k (cellsOf (xs.take k))) := row_below hO2 ((Below.refl _ _).alloc (Nat.le_refl _) (.cells #[.int .i64 n] 2)); have HB2 : Hid (Below w1.heap.size w1 (w2.alloc (.cells #[.int .i64 n] 2))) := hB2.alloc hB2.size _; have sz2 := hB2.size; have sz2' : w1.heap.size ≤ (w2.alloc (.cells #[.int .i64 n] 2)).heap.size := HB2.out.size; have HNW : Hid _ := num_new w2 2 n; clear hO2 hB2 hg2)
            | (refine wpList_append_own_at _ rfl (.tmp 43) (.tmp 45) 27 rfl w1.heap.size 2 i0 (.int .i64 0) 1 8 Try.underlying27 HI0.out HZ0.out HZ1.out HZ2.out rfl (by decide) (.slice (some ⟨g2, 0, none⟩) k cap2) k (cellsOf (xs.take k)) rfl HO2.out ⟨w2.heap.size, 0, none⟩ 1 1 [.int .i64 n] rfl rfl HNW.out (by simp [Value.oneCell']) (by unfold maxLen; omega) (by omega) sz2' ?_; intro v3 w3 hO3 hg3 _ hat3; obtain ⟨a3, c3, rfl⟩ := row_slice hO3; have B3 := below_app HB2.out HO2.out sz2' hg3; have HO3 : Hid (w3.ownsRow w1.heap.size 2 1 (.slice a3 (k + 1) c3) (k + 1) (cellsOf (xs.take k) ++ [.int .i64 n])) := hO3; have HB3 : Hid _ := B3; have sz3 := B3.size; have IR3 := intsAt_below HR1.out B3; have HNW3 : Hid _ := ints_news IR3; clear hO3 hg3 hat3 B3 IR3)
            | (refine wpList_append_own_at _ rfl (.tmp 46) (.tmp 47) 27 rfl w1.heap.size 2 i0 (.int .i64 0) 1 8 Try.underlying27 HI0.out HZ0.out HZ1.out HZ2.out rfl (by decide) (.slice a3 (k + 1) c3) (k + 1) (cellsOf (xs.take k) ++ [.int .i64 n]) rfl HO3.out ⟨g1, 0, none⟩ ((xs.length - k)) cap1 (cellsOf (xs.drop k)) rfl (by simp) HNW3.out (ints_oneCell _ _) (by unfold maxLen; omega) (by omega) sz3 ?_; intro v4 w4 hO4 hg4 _ hat4; obtain ⟨a4, c4, rfl⟩ := row_slice hO4; have B4 := below_app HB3.out HO3.out sz3 hg4; have HFB : Hid (Below wr.heap.size wr w4) := HB1.out.trans (B4.mono sz1); have HFO : Hid (Own w4 base (.slice a4 (k + 1 + ((xs.length - k))) c4) RX) := own_put HF.out (by simp <;> omega) (row_base hO4 (Nat.le_trans hb sz1)); clear hO4 hg4 hat4 B4))
          go_ret
          exact ⟨_, rfl, HFO.out, HFB.out⟩
        · have ek : k = xs.length := by omega
          have hd : xs.drop k = [] := List.drop_eq_nil_of_le (by omega)
          have ht : xs.take k = xs := List.take_of_length_le (by omega)
          have HFN : Hid (RX = xs ++ n :: []) := by
            have := HF.out
            rw [hd, ht] at this
            exact this
          clear HF
          have HF : Hid (RX = xs ++ n :: []) := HFN.out
          clear HFN
          have HQ1 : Hid (IntsAt wr (.slice none 0 0) []) := ⟨none, 0, rfl, Nat.le_refl _, by decide, fun _ => rfl, fun h => absurd h (by simp)⟩
          cases a with
          | none =>
            have hc0 := hnil rfl
            have hx0 : xs = [] := List.eq_nil_of_length_eq_zero (by omega)
            subst hc0 hx0
            obtain rfl : k = 0 := by simpa using ek
            have HP1 : Hid (IntsAt wr (.slice none 0 0) []) := HQ1.out
            have HP2 : Hid (IntsAt wr (.slice none 0 0) []) := HQ1.out
            clear HC hall hput hgo heq hmin hd ht ek HQ1
            go_wp2_with (first
              | (refine wpList_copiedN (a := none) (n := 0) (cap := 0) (xs := ([] : List Int)) HP1.out (by omega) rfl (.tmp 34) (.tmp 37) rfl rfl rfl ?_; intro g1 cap1 w1 hg1 hO1 hB1; have HR1 : Hid (IntsAt w1 (.slice (some ⟨g1, 0, none⟩) 0 cap1) ([] : List Int)) := own_ints (own_row hO1 (by simp)); have HP3 : Hid (IntsAt w1 (.slice none 0 0) ([] : List Int)) := intsAt_below HP2.out hB1; have HB1 : Hid _ := hB1; have sz1 := hB1.size; clear hO1 hB1 hg1)
              | (refine wpList_copiedN (a := none) (n := 0) (cap := 0) (xs := ([] : List Int)) HP3.out (by omega) rfl (.tmp 39) (.tmp 42) rfl rfl rfl ?_; intro g2 cap2 w2 hg2 hO2 hB2; have HO2 : Hid ((w2.alloc (.cells #[.int .i64 n] 2)).ownsRow w1.heap.size 2 1 (.slice (some ⟨g2, 0, none⟩) 0 cap2) 0 (cellsOf ([] : List Int))) := row_below hO2 ((Below.refl _ _).alloc (Nat.le_refl _) (.cells #[.int .i64 n] 2)); have HB2 : Hid (Below w1.heap.size w1 (w2.alloc (.cells #[.int .i64 n] 2))) := hB2.alloc hB2.size _; have sz2 := hB2.size; have sz2' : w1.heap.size ≤ (w2.alloc (.cells #[.int .i64 n] 2)).heap.size := HB2.out.size; have HNW : Hid _ := num_new w2 2 n; clear hO2 hB2 hg2)
              | (refine wpList_append_own_at _ rfl (.tmp 43) (.tmp 45) 27 rfl w1.heap.size 2 i0 (.int .i64 0) 1 8 Try.underlying27 HI0.out HZ0.out HZ1.out HZ2.out rfl (by decide) (.slice (some ⟨g2, 0, none⟩) 0 cap2) 0 (cellsOf ([] : List Int)) rfl HO2.out ⟨w2.heap.size, 0, none⟩ 1 1 [.int .i64 n] rfl rfl HNW.out (by simp [Value.oneCell']) (by unfold maxLen; omega) (by omega) sz2' ?_; intro v3 w3 hO3 hg3 _ hat3; obtain ⟨a3, c3, rfl⟩ := row_slice hO3; have B3 := below_app HB2.out HO2.out sz2' hg3; have HO3 : Hid (w3.ownsRow w1.heap.size 2 1 (.slice a3 (0 + 1) c3) (0 + 1) (cellsOf ([] : List Int) ++ [.int .i64 n])) := hO3; have HB3 : Hid _ := B3; have sz3 := B3.size; have IR3 := intsAt_below HR1.out B3; have HNW3 : Hid _ := ints_news IR3; clear hO3 hg3 hat3 B3 IR3)
              | (refine wpList_append_own_at _ rfl (.tmp 46) (.tmp 47) 27 rfl w1.heap.size 2 i0 (.int .i64 0) 1 8 Try.underlying27 HI0.out HZ0.out HZ1.out HZ2.out rfl (by decide) (.slice a3 (0 + 1) c3) (0 + 1) (cellsOf ([] : List Int) ++ [.int .i64 n]) rfl HO3.out ⟨g1, 0, none⟩ (0) cap1 (cellsOf ([] : List Int)) rfl (by simp) HNW3.out (ints_oneCell _ _) (by unfold maxLen; omega) (by omega) sz3 ?_; intro v4 w4 hO4 hg4 _ hat4; obtain ⟨a4, c4, rfl⟩ := row_slice hO4; have B4 := below_app HB3.out HO3.out sz3 hg4; have HFB : Hid (Below wr.heap.size wr w4) := HB1.out.trans (B4.mono sz1); have HFO : Hid (Own w4 base (.slice a4 (0 + 1 + (0)) c4) RX) := own_put HF.out (by simp <;> omega) (row_base hO4 (Nat.le_trans hb sz1)); clear hO4 hg4 hat4 B4))
            go_ret
            exact ⟨_, rfl, HFO.out, HFB.out⟩
          | some ad =>
            obtain ⟨g0, hg0⟩ : ∃ g0, ad = ⟨g0, 0, none⟩ := by
              obtain ⟨_, ⟨h1, _⟩ | ⟨g, c', cur, h1, _⟩⟩ := HO.out
              · cases h1
              · injection h1 with h1
                injection h1 with h1
                exact ⟨g, h1⟩
            subst hg0 ek
            have HP2 : Hid (IntsAt wr (.slice (some ⟨g0, 0, none⟩) xs.length cap) xs) := HI.out
            by_cases hck : cap = xs.length
            · subst hck
              have HP1 : Hid (IntsAt wr (.slice (some ⟨g0, 0, none⟩) 0 0) []) := ⟨_, 0, rfl, Nat.le_refl _, by decide, fun e => (by cases e), fun h => absurd h (by simp)⟩
              clear HC hall hput hgo heq hmin hd ht HQ1
              go_wp2_with (first
                | (refine wpList_copiedN (a := (some ⟨g0, 0, none⟩)) (n := 0) (cap := 0) (xs := ([] : List Int)) HP1.out (by omega) rfl (.tmp 34) (.tmp 37) rfl rfl rfl ?_; intro g1 cap1 w1 hg1 hO1 hB1; have HR1 : Hid (IntsAt w1 (.slice (some ⟨g1, 0, none⟩) 0 cap1) ([] : List Int)) := own_ints (own_row hO1 (by simp)); have HP3 : Hid (IntsAt w1 (.slice (some ⟨g0, 0, none⟩) xs.length xs.length) xs) := intsAt_below HP2.out hB1; have HB1 : Hid _ := hB1; have sz1 := hB1.size; clear hO1 hB1 hg1)
                | (refine wpList_copiedN (a := (some ⟨g0, 0, none⟩)) (n := xs.length) (cap := xs.length) (xs := xs) HP3.out (by omega) rfl (.tmp 39) (.tmp 42) rfl rfl rfl ?_; intro g2 cap2 w2 hg2 hO2 hB2; have HO2 : Hid ((w2.alloc (.cells #[.int .i64 n] 2)).ownsRow w1.heap.size 2 1 (.slice (some ⟨g2, 0, none⟩) xs.length cap2) xs.length (cellsOf xs)) := row_below hO2 ((Below.refl _ _).alloc (Nat.le_refl _) (.cells #[.int .i64 n] 2)); have HB2 : Hid (Below w1.heap.size w1 (w2.alloc (.cells #[.int .i64 n] 2))) := hB2.alloc hB2.size _; have sz2 := hB2.size; have sz2' : w1.heap.size ≤ (w2.alloc (.cells #[.int .i64 n] 2)).heap.size := HB2.out.size; have HNW : Hid _ := num_new w2 2 n; clear hO2 hB2 hg2)
                | (refine wpList_append_own_at _ rfl (.tmp 43) (.tmp 45) 27 rfl w1.heap.size 2 i0 (.int .i64 0) 1 8 Try.underlying27 HI0.out HZ0.out HZ1.out HZ2.out rfl (by decide) (.slice (some ⟨g2, 0, none⟩) xs.length cap2) xs.length (cellsOf xs) rfl HO2.out ⟨w2.heap.size, 0, none⟩ 1 1 [.int .i64 n] rfl rfl HNW.out (by simp [Value.oneCell']) (by unfold maxLen; omega) (by omega) sz2' ?_; intro v3 w3 hO3 hg3 _ hat3; obtain ⟨a3, c3, rfl⟩ := row_slice hO3; have B3 := below_app HB2.out HO2.out sz2' hg3; have HO3 : Hid (w3.ownsRow w1.heap.size 2 1 (.slice a3 (xs.length + 1) c3) (xs.length + 1) (cellsOf xs ++ [.int .i64 n])) := hO3; have HB3 : Hid _ := B3; have sz3 := B3.size; have IR3 := intsAt_below HR1.out B3; have HNW3 : Hid _ := ints_news IR3; clear hO3 hg3 hat3 B3 IR3)
                | (refine wpList_append_own_at _ rfl (.tmp 46) (.tmp 47) 27 rfl w1.heap.size 2 i0 (.int .i64 0) 1 8 Try.underlying27 HI0.out HZ0.out HZ1.out HZ2.out rfl (by decide) (.slice a3 (xs.length + 1) c3) (xs.length + 1) (cellsOf xs ++ [.int .i64 n]) rfl HO3.out ⟨g1, 0, none⟩ (0) cap1 (cellsOf ([] : List Int)) rfl (by simp) HNW3.out (ints_oneCell _ _) (by unfold maxLen; omega) (by omega) sz3 ?_; intro v4 w4 hO4 hg4 _ hat4; obtain ⟨a4, c4, rfl⟩ := row_slice hO4; have B4 := below_app HB3.out HO3.out sz3 hg4; have HFB : Hid (Below wr.heap.size wr w4) := HB1.out.trans (B4.mono sz1); have HFO : Hid (Own w4 base (.slice a4 (xs.length + 1 + (0)) c4) RX) := own_put HF.out (by simp <;> omega) (row_base hO4 (Nat.le_trans hb sz1)); clear hO4 hg4 hat4 B4))
              go_ret
              exact ⟨_, rfl, HFO.out, HFB.out⟩
            · have HP1 : Hid (IntsAt wr (.slice (some ⟨g0, xs.length, none⟩) 0 (cap - xs.length)) []) := ⟨_, _, rfl, Nat.zero_le _, Nat.le_trans (Nat.sub_le _ _) hcm, fun e => (by cases e), fun h => absurd h (by simp)⟩
              clear HC hall hput hgo heq hmin hd ht HQ1
              go_wp2_with (first
                | (refine wpList_copiedN (a := (some ⟨g0, xs.length, none⟩)) (n := 0) (cap := (cap - xs.length)) (xs := ([] : List Int)) HP1.out (by omega) rfl (.tmp 34) (.tmp 37) rfl rfl rfl ?_; intro g1 cap1 w1 hg1 hO1 hB1; have HR1 : Hid (IntsAt w1 (.slice (some ⟨g1, 0, none⟩) 0 cap1) ([] : List Int)) := own_ints (own_row hO1 (by simp)); have HP3 : Hid (IntsAt w1 (.slice (some ⟨g0, 0, none⟩) xs.length cap) xs) := intsAt_below HP2.out hB1; have HB1 : Hid _ := hB1; have sz1 := hB1.size; clear hO1 hB1 hg1)
                | (refine wpList_copiedN (a := (some ⟨g0, 0, none⟩)) (n := xs.length) (cap := cap) (xs := xs) HP3.out (by omega) rfl (.tmp 39) (.tmp 42) rfl rfl rfl ?_; intro g2 cap2 w2 hg2 hO2 hB2; have HO2 : Hid ((w2.alloc (.cells #[.int .i64 n] 2)).ownsRow w1.heap.size 2 1 (.slice (some ⟨g2, 0, none⟩) xs.length cap2) xs.length (cellsOf xs)) := row_below hO2 ((Below.refl _ _).alloc (Nat.le_refl _) (.cells #[.int .i64 n] 2)); have HB2 : Hid (Below w1.heap.size w1 (w2.alloc (.cells #[.int .i64 n] 2))) := hB2.alloc hB2.size _; have sz2 := hB2.size; have sz2' : w1.heap.size ≤ (w2.alloc (.cells #[.int .i64 n] 2)).heap.size := HB2.out.size; have HNW : Hid _ := num_new w2 2 n; clear hO2 hB2 hg2)
                | (refine wpList_append_own_at _ rfl (.tmp 43) (.tmp 45) 27 rfl w1.heap.size 2 i0 (.int .i64 0) 1 8 Try.underlying27 HI0.out HZ0.out HZ1.out HZ2.out rfl (by decide) (.slice (some ⟨g2, 0, none⟩) xs.length cap2) xs.length (cellsOf xs) rfl HO2.out ⟨w2.heap.size, 0, none⟩ 1 1 [.int .i64 n] rfl rfl HNW.out (by simp [Value.oneCell']) (by unfold maxLen; omega) (by omega) sz2' ?_; intro v3 w3 hO3 hg3 _ hat3; obtain ⟨a3, c3, rfl⟩ := row_slice hO3; have B3 := below_app HB2.out HO2.out sz2' hg3; have HO3 : Hid (w3.ownsRow w1.heap.size 2 1 (.slice a3 (xs.length + 1) c3) (xs.length + 1) (cellsOf xs ++ [.int .i64 n])) := hO3; have HB3 : Hid _ := B3; have sz3 := B3.size; have IR3 := intsAt_below HR1.out B3; have HNW3 : Hid _ := ints_news IR3; clear hO3 hg3 hat3 B3 IR3)
                | (refine wpList_append_own_at _ rfl (.tmp 46) (.tmp 47) 27 rfl w1.heap.size 2 i0 (.int .i64 0) 1 8 Try.underlying27 HI0.out HZ0.out HZ1.out HZ2.out rfl (by decide) (.slice a3 (xs.length + 1) c3) (xs.length + 1) (cellsOf xs ++ [.int .i64 n]) rfl HO3.out ⟨g1, 0, none⟩ (0) cap1 (cellsOf ([] : List Int)) rfl (by simp) HNW3.out (ints_oneCell _ _) (by unfold maxLen; omega) (by omega) sz3 ?_; intro v4 w4 hO4 hg4 _ hat4; obtain ⟨a4, c4, rfl⟩ := row_slice hO4; have B4 := below_app HB3.out HO3.out sz3 hg4; have HFB : Hid (Below wr.heap.size wr w4) := HB1.out.trans (B4.mono sz1); have HFO : Hid (Own w4 base (.slice a4 (xs.length + 1 + (0)) c4) RX) := own_put HF.out (by simp <;> omega) (row_base hO4 (Nat.le_trans hb sz1)); clear hO4 hg4 hat4 B4))
              go_ret
              exact ⟨_, rfl, HFO.out, HFB.out⟩
end Go.Proofs.Ytdogibjgogcdkal.gr
namespace Go.Proofs.Ytdogibjgogcdkal.gr
open Go.RowKit rows heads
set_option maxRecDepth 100000
set_option linter.unusedVariables false

/-- What these refs lead to is in the list. -/
def goesI (xs : List Int) (l : List Rf) : Prop := ∀ r ∈ l, r.1 = 2 → r.2 ∈ xs
theorem goesI_mono {xs ys : List Int} {l : List Rf} (h : goesI xs l) (hs : ∀ a ∈ xs, a ∈ ys) : goesI ys l := fun r hr h2 => hs _ (h r hr h2)
/-- A list of Ids that are reached. -/
structure Good (G : Gr) (xs : List Int) : Prop where
  rise : Rising xs
  sound : ∀ a ∈ xs, ∃ p, Rch G p ∧ (G.objs.getD p obD).id = a
theorem good_nil (G : Gr) : Good G [] := ⟨List.Pairwise.nil, fun a h => absurd h (by simp)⟩
theorem good_put {G : Gr} {xs : List Int} (h : Good G xs) {p : Nat} (hp : Rch G p) {n : Int} (hn : (G.objs.getD p obD).id = n) : Good G (putI n xs) :=
  ⟨rising_putI h.rise, fun a ha => by
    rcases mem_putI.1 ha with e | e
    · rw [e]; exact ⟨p, hp, hn⟩
    · exact h.sound a e⟩
theorem good_len {G : Gr} (hok : gOk G = true) {xs : List Int} (h : Good G xs) : xs.length ≤ 100000 := by
  have hn := (gOk_len hok).2.2.2
  have := rising_len (N := G.next) (m := 0) h.rise (fun x hx => by
    obtain ⟨p, hp, rfl⟩ := h.sound x hx
    have hlt := rch_lt hp
    obtain ⟨h1, h2, _⟩ := obOk_lt ((right_of hok).ob p hlt)
    have h3 : 0 ≤ lastOf G.objs p := by
      match p with
      | 0 => exact Int.le_refl _
      | p + 1 =>
        show 0 ≤ (G.objs.getD p obD).id
        have hpos : ∀ j, j < G.objs.length → 0 < (G.objs.getD j obD).id := fun j => by
          induction j with
          | zero => intro hj; have := (obOk_lt ((right_of hok).ob 0 hj)).1; exact this
          | succ j ih =>
            intro hj
            have h5 := (obOk_lt ((right_of hok).ob (j + 1) hj)).1
            have h6 := ih (by omega)
            have h7 : lastOf G.objs (j + 1) = (G.objs.getD j obD).id := rfl
            omega
        have := hpos p (by omega)
        omega
    omega)
  omega
/-- The place of an Id. -/
theorem right_ref {G : Gr} (hok : gOk G = true) {r : Rf} (hr : r ∈ G.roots ++ G.mourned ∨ ∃ p, p < G.objs.length ∧ r ∈ (G.objs.getD p obD).slots) (h2 : r.1 = 2) : ledB G.objs r = true ∧ (G.objs.getD (ledP G.objs r) obD).id = r.2 := by
  have R := right_of hok
  refine led_right ?_ h2
  rcases hr with h | ⟨p, hp, h⟩
  · rcases List.mem_append.1 h with h | h
    · obtain ⟨i, hi, rfl⟩ := List.getElem_of_mem h
      have h6 := (gOk_len hok).2.1
      have := R.root i (by omega)
      rw [List.getD_eq_getElem?_getD, List.getElem?_eq_getElem hi] at this
      exact this
    · obtain ⟨i, hi, rfl⟩ := List.getElem_of_mem h
      have := (R.mo i hi).2
      rw [List.getD_eq_getElem?_getD, List.getElem?_eq_getElem hi] at this
      exact this
  · obtain ⟨i, hi, rfl⟩ := List.getElem_of_mem h
    have := R.sl p hp i hi
    rw [List.getD_eq_getElem?_getD, List.getElem?_eq_getElem hi] at this
    exact this
theorem right_key {G : Gr} (hG : gOk G = true) {p : Nat} (hp : p < G.objs.length) (hf : (G.objs.getD p obD).fmt = 2) : 0 < (G.objs.getD p obD).slots.length ∧ (G.objs.getD p obD).slots.getD 0 refD ∈ (G.objs.getD p obD).slots := by
  have h := (obOk_lt ((right_of hG).ob p hp)).2.2.2
  rw [hf] at h
  simp only [hok] at h
  rw [if_neg (by decide)] at h
  simp only [Bool.and_eq_true, Bool.or_eq_true, decide_eq_true_eq, beq_iff_eq] at h
  have h1 : 0 < (G.objs.getD p obD).slots.length := by omega
  clear h hf
  revert h1
  generalize (G.objs.getD p obD).slots = sl
  intro h1
  refine ⟨h1, ?_⟩
  rw [List.getD_eq_getElem?_getD, List.getElem?_eq_getElem h1]
  exact List.getElem_mem h1
theorem onw_mem {o : Ob} {r : Rf} (h : r ∈ onw o) : r ∈ o.slots := by
  unfold onw at h
  split at h
  · exact h
  · split at h
    · exact List.mem_of_mem_drop h
    · simp at h
/-- Nothing is left to do of the object at k. -/
def DoneI (G : Gr) (xs : List Int) (k : Nat) : Prop := (G.objs.getD k obD).id ∈ xs → (awt G.objs (G.objs.getD k obD) = none → goesI xs (onw (G.objs.getD k obD))) ∧ ∀ q, awt G.objs (G.objs.getD k obD) = some q → (G.objs.getD q obD).id ∈ xs → goesI xs (onw (G.objs.getD k obD))
/-- Where nothing is left to do, all that is reached is there. -/
theorem good_all {G : Gr} (hG : gOk G = true) {xs : List Int} (h : Good G xs) (hr : goesI xs (G.roots ++ G.mourned)) (hd : ∀ k, k < G.objs.length → DoneI G xs k) : IsR G xs := by
  have all : ∀ p, Rch G p → p < G.objs.length ∧ (G.objs.getD p obD).id ∈ xs := fun p hp => hp (fun p => p < G.objs.length ∧ (G.objs.getD p obD).id ∈ xs) (by
    refine ⟨fun r h1 hl => ⟨ledP_lt hl, ?_⟩, fun p hp ha r h1 hl => ⟨ledP_lt hl, ?_⟩, fun p q hp ha hq r h1 hl => ⟨ledP_lt hl, ?_⟩⟩
    · rw [(right_ref hG (.inl h1) (led_two hl)).2]
      exact hr r h1 (led_two hl)
    · rw [(right_ref hG (.inr ⟨p, hp.1, onw_mem h1⟩) (led_two hl)).2]
      exact (hd p hp.1 hp.2).1 ha r h1 (led_two hl)
    · rw [(right_ref hG (.inr ⟨p, hp.1, onw_mem h1⟩) (led_two hl)).2]
      exact (hd p hp.1 hp.2).2 q ha hq.2 r h1 (led_two hl))
  obtain ⟨ys, hy⟩ := isR_ex G
  have e : xs = ys := rising_ext h.rise (isR_rising hG hy) fun a => by
    rw [isR_mem hy]
    exact ⟨h.sound a, fun ⟨p, hp, e⟩ => by rw [← e]; exact (all p hp).2⟩
  rw [e]
  exact hy
theorem rise_inj {os : List Ob} (h : Rise os) {p q : Nat} (hp : p < os.length) (hq : q < os.length) (e : (os.getD p obD).id = (os.getD q obD).id) : p = q := by
  rcases Nat.lt_trichotomy p q with h1 | h1 | h1
  · have := h p q h1 hq; omega
  · exact h1
  · have := h q p h1 hp; omega
/-- From which slot on an object leads on, as the specification finds it. -/
def FromOk (o : Ob) (ys : List Int) (F : Nat) : Prop := (o.fmt = 1 ∧ F = o.slots.length) ∨ (o.fmt = 0 ∧ F = 0) ∨ (o.fmt = 2 ∧ F = 1 ∧ ¬ ((o.slots.getD 0 refD).1 = 2 ∧ (o.slots.getD 0 refD).2 ∉ ys)) ∨ (o.fmt = 2 ∧ F = o.slots.length ∧ (o.slots.getD 0 refD).1 = 2 ∧ (o.slots.getD 0 refD).2 ∉ ys)
theorem from_ok {G : Gr} (hG : gOk G = true) {k : Nat} (hk : k < G.objs.length) {ys : List Int} (hg : Good G ys) (hin : (G.objs.getD k obD).id ∈ ys) {F : Nat} (hF : FromOk (G.objs.getD k obD) ys F) :
    F ≤ (G.objs.getD k obD).slots.length ∧ (∀ r ∈ (G.objs.getD k obD).slots.drop F, r.1 = 2 → ∃ p, Rch G p ∧ (G.objs.getD p obD).id = r.2) ∧ (goesI ys ((G.objs.getD k obD).slots.drop F) → DoneI G ys k) := by
  have hR : Rch G k := by
    obtain ⟨p, hp, e⟩ := hg.sound _ hin
    rw [rise_inj (gOk_rise hG) (rch_lt hp) hk e] at hp
    exact hp
  have ref : ∀ r ∈ (G.objs.getD k obD).slots, r.1 = 2 → ledB G.objs r = true ∧ (G.objs.getD (ledP G.objs r) obD).id = r.2 := fun r hr h2 => right_ref hG (.inr ⟨k, hk, hr⟩) h2
  rcases hF with ⟨hf, rfl⟩ | ⟨hf, rfl⟩ | ⟨hf, rfl, hn⟩ | ⟨hf, rfl, h2, hn⟩
  · have eo : onw (G.objs.getD k obD) = [] := by unfold onw; rw [if_neg (by omega), if_neg (by omega)]
    refine ⟨Nat.le_refl _, fun r hr => by simp at hr, fun _ _ => ⟨fun _ => by rw [eo]; exact fun r hr => absurd hr (by simp), fun q _ _ => by rw [eo]; exact fun r hr => absurd hr (by simp)⟩⟩
  · have eo : onw (G.objs.getD k obD) = (G.objs.getD k obD).slots := by unfold onw; rw [if_pos hf]
    have ea : awt G.objs (G.objs.getD k obD) = none := by unfold awt; rw [if_neg (by omega)]
    refine ⟨Nat.zero_le _, fun r hr h2 => ?_, fun hgo _ => ⟨fun _ => by rw [eo]; exact hgo, fun q e _ => (by rw [ea] at e; cases e)⟩⟩
    rw [List.drop_zero] at hr
    exact ⟨_, Rch.on0 k hR ea r (by rw [eo]; exact hr) (ref r hr h2).1, (ref r hr h2).2⟩
  · have eo : onw (G.objs.getD k obD) = (G.objs.getD k obD).slots.drop 1 := by unfold onw; rw [if_neg (by omega), if_pos hf]
    obtain ⟨h0, hm⟩ := right_key hG hk hf
    refine ⟨h0, fun r hr h2 => ?_, fun hgo _ => ⟨fun _ => by rw [eo]; exact hgo, fun q _ _ => by rw [eo]; exact hgo⟩⟩
    have hr' := List.mem_of_mem_drop hr
    have hl := ref r hr' h2
    cases ha : awt G.objs (G.objs.getD k obD) with
    | none => exact ⟨_, Rch.on0 k hR ha r (by rw [eo]; exact hr) hl.1, hl.2⟩
    | some q =>
      have hq : Rch G q := by
        unfold awt at ha
        split at ha
        · rename_i hc
          injection ha with ha
          have h22 := led_two hc.2
          have hin2 : ((G.objs.getD k obD).slots.getD 0 refD).2 ∈ ys := by
            apply Classical.byContradiction
            intro hno
            exact hn ⟨h22, hno⟩
          obtain ⟨p, hp, e⟩ := hg.sound _ hin2
          have e2 := (ref _ hm h22).2
          rw [ha] at e2
          have hqlt : q < G.objs.length := by rw [← ha]; exact ledP_lt hc.2
          rw [rise_inj (gOk_rise hG) (rch_lt hp) hqlt (e.trans e2.symm)] at hp
          exact hp
        · cases ha
      exact ⟨_, Rch.on1 k q hR ha hq r (by rw [eo]; exact hr) hl.1, hl.2⟩
  · obtain ⟨h0, hm⟩ := right_key hG hk hf
    have hl := ref _ hm h2
    have ea : awt G.objs (G.objs.getD k obD) = some (ledP G.objs ((G.objs.getD k obD).slots.getD 0 refD)) := by unfold awt; rw [if_pos ⟨hf, hl.1⟩]
    refine ⟨Nat.le_refl _, fun r hr => by simp at hr, fun _ _ => ⟨fun e => (by rw [ea] at e; cases e), fun q e hq => ?_⟩⟩
    rw [ea] at e
    injection e with e
    rw [← e, hl.2] at hq
    exact absurd hq hn
theorem isR_unique {G : Gr} {xs ys : List Int} (h : IsR G xs) (h' : IsR G ys) : xs = ys := by
  obtain ⟨f, hf, rfl⟩ := h'
  exact isR_eq h hf
end Go.Proofs.Ytdogibjgogcdkal.gr
namespace Go.Proofs.Ytdogibjgogcdkal.gr
open Go.RowKit rows heads
set_option maxRecDepth 100000
set_option linter.unusedVariables false

/-- append of refs onto a row of the call's own, whatever the other list, as one step of a region that draws. -/
theorem step_appR {ops : Array Oper} {o : Oper} {a : Act} {w : World} {K : Act → World → Prop} {Q : Exit → Act → World → Prop} {E : Prop} (hgd : o.guard = none) (s x : Operand)
    (ho : o.op = .call { callee := .builtin .append, args := #[s, x], argTypes := #[30, 30] })
    (base : Nat) (v : Value) (es : List Rf) (hs : a.eval s = v) (hown : OwnR w base v es) (av : Option Addr) (nv cv : Nat) (fs : List Rf) (hx : a.eval x = .slice av nv cv) (hR : RefsAt w (.slice av nv cv) fs)
    (hb : es.length + fs.length ≤ 1048576) (hbase : base ≤ w.heap.size)
    (h : ∀ v' w', OwnR w' base v' (es ++ fs) → Ch (blk v) w w' → (∀ k ∈ blk v', k ∈ blk v ∨ w.heap.size ≤ k) → K (a.put o.dst v') w') :
    if Region.wanted o (yielded ops a.tmps) = true then Oper.wp Try.prog o a w K Q else E := by
  obtain ⟨i0, hi, hz0, hz1, hz2⟩ := info_parts infoR
  obtain ⟨hn, hnone⟩ := refs_len hR
  cases av with
  | none =>
    have e0 := hnone rfl
    obtain ⟨a', c', e', _, _, h3, _⟩ := id hR
    injection e' with e1 e2 e3
    subst e1 e3
    have ec := h3 rfl
    have ef : fs = [] := List.eq_nil_of_length_eq_zero (by omega)
    subst ec ef e0
    have hw : Region.wanted o (yielded ops a.tmps) = true := by simp [Region.wanted, hgd]
    rw [if_pos hw]
    have hrun := run_append_owned_none (P := Try.prog) (w := w) base 30 o.type 80 i0 2 Try.underlying30 hi v es.length (cellsR es) hown
    have hk := h v w (by rw [List.append_nil]; exact hown) (Ch.refl _ _) (fun k hk => .inl hk)
    unfold Oper.wp
    simp [execOp, ho, resolve, invoke, builtin, hs, hx, hrun, Result.andThen]
    exact hk
  | some ad =>
    subst hn
    refine step_app_at hgd s x 30 ho base 80 i0 (.agg #[.int .i64 0, .int .i64 0]) 2 16 Try.underlying30 hi hz0 hz1 hz2 rfl (by decide) v es.length (cellsR es) hs hown ad fs.length cv (cellsR fs) hx (cellsR_length _) (refs_news hR) (cellsR_one _) (by unfold maxLen; omega) (by omega) hbase ?_
    intro v' w' hrow hg hat
    refine h v' w' (by unfold OwnR; rw [List.length_append, cellsR_append]; exact hrow) (ch_grown hg) fun k hk => ?_
    unfold blk at hk ⊢
    rcases hat with e | e
    · rw [e] at hk; exact .inl hk
    · rw [e] at hk; simp at hk; exact .inr (by omega)
theorem step_app0 {ops : Array Oper} {o : Oper} {act : Act} {w : World} {K : Act → World → Prop} {Q : Exit → Act → World → Prop} {E : Prop} {g : Nat} {a : Option Addr} {n cap : Nat} {es : List Rf}
    (h : RefsAt w (.slice a n cap) es) (hl : n ≤ 1048576) (hg : w.heap[g]? = some (.cells #[] 80 (0, 0))) (hgd : o.guard = none) (s x : Operand) (ho : o.op = .call { callee := .builtin .append, args := #[s, x], argTypes := #[30, 30] })
    (hs : act.eval s = .slice (some ⟨g, 0, none⟩) 0 0) (hx : act.eval x = .slice a n cap)
    (k : ∀ q c w', (q = g ∨ w.heap.size ≤ q) → (∀ base, base ≤ q → OwnR w' base (.slice (some ⟨q, 0, none⟩) n c) es) → Below w.heap.size w w' → K (act.put o.dst (.slice (some ⟨q, 0, none⟩) n c)) w') :
    if Region.wanted o (yielded ops act.tmps) = true then Oper.wp Try.prog o act w K Q else E := by
  have hw : Region.wanted o (yielded ops act.tmps) = true := by simp [Region.wanted, hgd]
  rw [if_pos hw]
  obtain ⟨q, c, w', hr, h1, h2, h3⟩ := run_app0 h hl hg o.type
  unfold Oper.wp
  simp [execOp, ho, resolve, invoke, builtin, hs, hx, hr, Result.andThen]
  exact k q c w' h1 h2 h3
theorem at_newS {X : World} {o : Obj} {k : Nat} (h : k = X.heap.size) : (X.alloc o).heap[k]? = some o := by subst h; exact heap_alloc_new _ _
theorem ints_sl {w : World} {v : Value} {xs : List Int} (h : IntsAt w v xs) : ∃ a n c, v = .slice a n c := by
  obtain ⟨a, c, e, _⟩ := h
  exact ⟨a, _, c, e⟩
/-- How long a slice is. -/
def slen : Value → Nat
  | .slice _ n _ => n
  | _ => 0

set_option maxHeartbeats 16000000 in
theorem l7Reached_any {w : World} {o r m : Value} {ms : List MO} {G : Gr} (h : GraphAt w o r m ms G) (hok : gOk G = true) {zs : List Int} (hz : IsR G zs) :
    Calls Try.prog 30 #[gv o r m G.next G.seed] w fun e w' => ∃ v, e = .returned v ∧ Own w' w.heap.size v zs ∧ Below w.heap.size w w' := by
  obtain ⟨a1, n1, c1, a2, n2, c2, a3, n3, c3, e1, e2, e3⟩ := graphAt_slices h
  subst e1 e2 e3
  have hlen := graphAt_len h
  obtain ⟨h200, h6, h40, hN1, hN2, _⟩ := gOk_len hok
  obtain ⟨hn2, _⟩ := refs_len h.2.2.1
  obtain ⟨hn3, _⟩ := refs_len h.2.2.2
  have B1 : Below w.heap.size w ((w.alloc (gb (.slice a1 n1 c1) (.slice a2 n2 c2) (.slice a3 n3 c3) G.next G.seed)).alloc (.cells #[] 2)) := ((Below.refl _ w).alloc (Nat.le_refl _) _).alloc (by simp) _
  have T1 : Five ((w.alloc (gb (.slice a1 n1 c1) (.slice a2 n2 c2) (.slice a3 n3 c3) G.next G.seed)).alloc (.cells #[] 2)) w.heap.size 32 (.slice a1 n1 c1) (.slice a2 n2 c2) (.slice a3 n3 c3) (.int .i64 G.next) (.int .i64 G.seed) := five_below (five_new w _ _ _ _ _ _) ((Below.refl _ _).alloc (Nat.le_refl _) _)
  have O1 : Own ((w.alloc (gb (.slice a1 n1 c1) (.slice a2 n2 c2) (.slice a3 n3 c3) G.next G.seed)).alloc (.cells #[] 2)) w.heap.size (.slice (some ⟨w.heap.size + 1, 0, none⟩) 0 0) [] := by
    refine ⟨rfl, .inr ⟨w.heap.size + 1, 0, #[], rfl, by omega, ?_, Nat.le_refl _, by decide, rfl, rfl⟩⟩
    exact at_newS (by simp)
  have HG : Hid _ := h
  have HOK : Hid _ := hok
  have HZ : Hid _ := hz
  have HO1 : Hid _ := O1
  have HB1 : Hid _ := B1
  have HT1 : Hid _ := T1
  have sX : w.heap.size + 2 = ((w.alloc (gb (.slice a1 n1 c1) (.slice a2 n2 c2) (.slice a3 n3 c3) G.next G.seed)).alloc (.cells #[] 2)).heap.size := by simp
  clear h hok hz O1 B1 T1
  generalize hgn : G.next = gn at *
  generalize hgs : G.seed = gs at *
  go_enter Try.func30, Try.ntmps30
  go_wp2_with fail
  generalize hX : ((w.alloc (gb (.slice a1 n1 c1) (.slice a2 n2 c2) (.slice a3 n3 c3) gn gs)).alloc (.cells #[] 2)) = X1 at *
  clear hX
  have NL : Below X1.heap.size X1 (X1.alloc (.cells #[] 80)).drew := ((Below.refl _ _).alloc (Nat.le_refl _) _).drew
  obtain ⟨z0, z1, z2, z3, z4, _⟩ := five_cells HT1.out
  obtain ⟨y0, y1, y2, y3, y4, _⟩ := five_cells (five_below HT1.out ((Below.refl _ X1).alloc (Nat.le_refl _) (.cells #[] 80)))
  have HLIT : Hid ((X1.alloc (.cells #[] 80)).drew.heap[X1.heap.size]? = some (.cells #[] 80 (0, 0))) := heap_alloc_new X1 _
  have HRO : Hid (RefsAt (X1.alloc (.cells #[] 80)).drew (.slice a2 n2 c2) G.roots) := refsAt_below HG.out.2.2.1 (HB1.out.trans (NL.mono HB1.out.size))
  have HNL : Hid _ := NL
  clear NL
  go_cut [4] from 12 to 18 (fun v wx => ∃ av nv cv, v = .slice av nv cv ∧ Hid (RefsAt wx (.slice av nv cv) (G.roots ++ G.mourned)) ∧ Hid (Below X1.heap.size X1 wx))
  case first =>
    go_region_law (first
      | (refine step_app0 HRO.out (by omega) HLIT.out rfl (.tmp 12) (.tmp 14) rfl rfl rfl ?_
         intro q c w3 hq hO hb
         have B3 := HNL.out.trans (hb.mono HNL.out.size)
         have hqs : X1.heap.size ≤ q := (by rcases hq with e | e; omega; exact Nat.le_trans HNL.out.size e)
         have OW3 := hO X1.heap.size hqs
         have HM3 : Hid _ := refsAt_below HG.out.2.2.2 (HB1.out.trans (B3.mono HB1.out.size))
         obtain ⟨x0, x1, x2, x3, x4, _⟩ := five_cells (five_below HT1.out B3)
         have HB3 : Hid _ := B3
         have HOW3 : Hid _ := OW3
         have hs3 := B3.size
         clear hq hO hb B3 OW3 hqs)
      | (refine step_appR rfl (.tmp 15) (.tmp 17) rfl X1.heap.size _ G.roots rfl HOW3.out a3 n3 c3 G.mourned rfl HM3.out (by omega) hs3 ?_
         intro v' w4 hO4 hc4 hk4
         obtain ⟨av, nv, cv, rfl⟩ := refs_slice (ownR_refs hO4)
         have HR4 : Hid _ := ownR_refs hO4
         have HB4 : Hid (Below X1.heap.size X1 w4) := HB3.out.trans (below_ch hc4 hs3 (fun k hk => (blk_lt HOW3.out k hk).1))
         clear hO4 hc4 hk4))
    all_goals go_wp2
    all_goals go_meet
    all_goals exact ⟨av, nv, cv, rfl, HR4, HB4⟩
  obtain ⟨av, nv, cv, rfl, HALL, HBX⟩ := hcut
  obtain ⟨X2, hX2⟩ : ∃ X2, X2 = wc := ⟨_, rfl⟩
  subst hX2
  clear z0 z1 z2 z3 z4 y0 y1 y2 y3 y4 HLIT HRO HNL
  obtain ⟨hnv, _⟩ := refs_len HALL.out
  have hLL : (G.roots ++ G.mourned).length ≤ 46 := by rw [List.length_append]; omega
  have HMEM : Hid (∀ r ∈ G.roots ++ G.mourned, r.1 = 2 → ∃ p, Rch G p ∧ (G.objs.getD p obD).id = r.2) := fun r hr h2 => ⟨_, Rch.root r hr (right_ref HOK.out (.inl hr) h2).1, (right_ref HOK.out (.inl hr) h2).2⟩
  have HO2 : Hid (Own X2 w.heap.size (.slice (some ⟨w.heap.size + 1, 0, none⟩) 0 0) []) := own_below HO1.out HBX.out
  have HB2 : Hid (Below w.heap.size w X2) := HB1.out.trans (HBX.out.mono HB1.out.size)
  have HT2 : Hid _ := five_below HT1.out HBX.out
  have sz2 := HB2.out.size
  clear HO1 HB1 HT1 HBX sX
  subst hnv
  generalize hL : G.roots ++ G.mourned = L at *
  obtain ⟨ao, co, eo, _⟩ := HG.out.2.1.1
  injection eo with e1 e2 e3
  subst e1 e2 e3
  have HGL : Hid (∀ xs, Good G xs → xs.length ≤ 100000) := fun xs hx => good_len HOK.out hx
  have HLEN : Hid _ := hlen
  have hms : ms.length ≤ 200 := by omega
  have HLL : Hid _ := hL
  clear hlen hn2 hn3 h6 h40 hL h200 hgn hgs
  go_wp2_with fail
  go_loopw [3, 5] (fun v p wr => ∃ (k : Nat) (vv : Value) (xs : List Int), vv = v ∧ k ≤ L.length ∧ p = .int .i64 k ∧ Own wr w.heap.size vv xs ∧ Good G xs ∧ goesI xs (L.take k) ∧ Below X2.heap.size X2 wr) (fun _ p _ => L.length - (intOf p).toNat)
  case atStart => exact ⟨0, _, [], rfl, Nat.zero_le _, rfl, HO2.out, good_nil G, fun r hr => absurd hr (by simp), Below.refl _ _⟩
  case round =>
    obtain ⟨k, vv, xs, rfl, hk, rfl, hO, hgood, hgo, hB⟩ := hrel
    by_cases hlt : k < L.length
    · obtain ⟨a', cap', e, _, _, _, hc⟩ := refsAt_below HALL.out hB
      injection e with e1 e2 e3
      subst e1 e3
      obtain ⟨b, off, rfl, hb, hcc⟩ := hc (by omega)
      obtain ⟨y0, y1⟩ := hcc k hlt
      have htk := take_next hlt
      have hme : L.getD k refD ∈ L := by rw [List.getD_eq_getElem?_getD, List.getElem?_eq_getElem hlt]; exact List.getElem_mem hlt
      clear hc hcc e2
      generalize L.getD k refD = e0 at *
      obtain ⟨ek, en⟩ := e0
      simp only at y0 y1
      have HO : Hid _ := hO
      have HGD : Hid _ := hgood
      have HGO : Hid _ := hgo
      have HB : Hid _ := hB
      by_cases he : ek = 2
      · subst he
        have hgl := HGL.out xs hgood
        have sB := hB.size
        have PT := l1Put_any hO (by omega) (by omega) en
        have HGP : Hid (Good G (putI en xs)) := by
          obtain ⟨p, hp, e⟩ := HMEM.out _ hme rfl
          exact good_put hgood hp e
        have HGG : Hid (goesI (putI en xs) (L.take (k + 1))) := fun r hr h2 => by
          rw [htk] at hr
          rcases List.mem_append.1 hr with e | e
          · exact mem_putI.2 (.inr (hgo r e h2))
          · rw [List.mem_singleton.1 e]; exact mem_putI.2 (.inl rfl)
        obtain ⟨va, vn, vc, hvv⟩ := ints_sl (own_ints hO)
        subst hvv
        clear hO hgood hgo hB htk hme hgl
        go_wp2_with (go_at_call 61; refine PT.mono ?_; clear PT; rintro e w4 ⟨v4, rfl, o4, b4⟩; obtain ⟨va4, vn4, vc4, rfl⟩ := ints_sl (own_ints o4); have HO4 : Hid _ := o4; have HB4 : Hid _ := HB.out.trans (b4.mono sB); clear o4 b4)
        exact ⟨⟨k + 1, _, _, rfl, by omega, by go_num, HO4.out, HGP.out, HGG.out, HB4.out⟩, by simp [intOf]; omega⟩
      · have he' : (ek == 2) = false := by simpa using he
        have HGG : Hid (goesI xs (L.take (k + 1))) := fun r hr h2 => by
          rw [htk] at hr
          rcases List.mem_append.1 hr with e | e
          · exact hgo r e h2
          · rw [List.mem_singleton.1 e] at h2; exact absurd h2 he
        clear hO hgood hgo hB htk hme he
        go_wp2
        exact ⟨⟨k + 1, vv, xs, rfl, by omega, by go_num, HO.out, HGD.out, HGG.out, HB.out⟩, by simp [intOf]; omega⟩
    · have e : k = L.length := by omega
      subst e
      rw [List.take_length] at hgo
      have HO : Hid _ := hO
      have HGD : Hid _ := hgood
      have HGO : Hid _ := hgo
      have HB : Hid _ := hB
      obtain ⟨va, vn, vc, hvv⟩ := ints_sl (own_ints hO)
      subst hvv
      clear hO hgood hgo hB
      go_wp2_with fail
      go_loopw [3] (fun v wr => ∃ (vv : Value) (xs : List Int), vv = v ∧ Own wr w.heap.size vv xs ∧ Good G xs ∧ goesI xs L ∧ Below X2.heap.size X2 wr) (fun v _ => 100001 - slen v)
      case atStart => exact ⟨_, xs, rfl, HO.out, HGD.out, HGO.out, HB.out⟩
      case round =>
        clear HO HGD HGO HB
        obtain ⟨vv, xs, rfl, hO, hgood, hgo, hB⟩ := hrel
        have hgl := HGL.out xs hgood
        obtain ⟨va, vc, hvv⟩ : ∃ a c, vv = .slice a xs.length c := by
          obtain ⟨a, c, e, _⟩ := own_ints hO
          exact ⟨a, c, e⟩
        subst hvv
        have HO : Hid _ := hO
        have HGD : Hid _ := hgood
        have HGO : Hid _ := hgo
        have HB : Hid _ := hB
        clear hO hgood hgo hB
        go_wp2_with fail
        go_loopw [3, 7] (fun v p wr => ∃ (k : Nat) (vv : Value) (ys : List Int), vv = v ∧ k ≤ ms.length ∧ p = .int .i64 k ∧ Own wr w.heap.size vv ys ∧ Good G ys ∧ goesI ys L ∧ xs.length ≤ ys.length ∧ (ys.length = xs.length → ys = xs ∧ ∀ j, j < k → DoneI G xs j) ∧ Below X2.heap.size X2 wr) (fun _ p _ => ms.length - (intOf p).toNat)
        case atStart => exact ⟨0, _, xs, rfl, Nat.zero_le _, rfl, HO.out, HGD.out, HGO.out, Nat.le_refl _, fun _ => ⟨rfl, fun j hj => by omega⟩, HB.out⟩
        case round =>
          clear HO HGO HB
          obtain ⟨k, vv, ys, rfl, hk, rfl, hO, hgood, hgo, hle, hsame, hB⟩ := hrel
          have hgl2 := HGL.out ys hgood
          obtain ⟨va2, vc2, hvv⟩ : ∃ a c, vv = .slice a ys.length c := by
            obtain ⟨a, c, e, _⟩ := own_ints hO
            exact ⟨a, c, e⟩
          subst hvv
          obtain ⟨q0, _⟩ := five_cells (five_below HT2.out hB)
          have HO : Hid _ := hO
          have HGY : Hid _ := hgood
          have HGO : Hid _ := hgo
          have HSM : Hid _ := hsame
          have HB : Hid _ := hB
          by_cases hlt : k < ms.length
          · obtain ⟨ao, co, eo, _, _, _, hco⟩ := orowAt_below HG.out.2.1.1 (HB2.out.trans (hB.mono sz2))
            injection eo with e1 e2 e3
            subst e1 e3
            obtain ⟨b1, off1, rfl, hb1, hcc1⟩ := hco (by omega)
            obtain ⟨x0, x1, x2, x3, x4⟩ := hcc1 k hlt
            have hmo : (ms.getD k moD).abs = G.objs.getD k obD := graphAt_get HG.out k
            have hsv := refsAt_below (HG.out.2.1.2 _ (mem_getD hlt)) (HB2.out.trans (hB.mono sz2))
            obtain ⟨sa, sc, hsl, _⟩ := id hsv
            have hkG : k < G.objs.length := by rw [← HLEN.out]; exact hlt
            have hs20 : (ms.getD k moD).slots.length ≤ 20 := by
              have := (right_obj HOK.out hkG).2.1
              rw [← hmo] at this
              exact this
            have HFK : Hid (∀ ys, Good G ys → (ms.getD k moD).id ∈ ys → ∀ F, FromOk (ms.getD k moD).abs ys F → F ≤ (ms.getD k moD).slots.length ∧ (∀ r ∈ (ms.getD k moD).slots.drop F, r.1 = 2 → ∃ p, Rch G p ∧ (G.objs.getD p obD).id = r.2) ∧ (goesI ys ((ms.getD k moD).slots.drop F) → DoneI G ys k)) := fun ys hg hin F hF => by
              have hin' : (G.objs.getD k obD).id ∈ ys := by rw [← hmo]; exact hin
              have hF' : FromOk (G.objs.getD k obD) ys F := by rw [← hmo]; exact hF
              have := from_ok HOK.out hkG hg hin' hF'
              rw [← hmo] at this
              exact this
            have HKEY : Hid ((ms.getD k moD).fmt = 2 → 0 < (ms.getD k moD).slots.length) := fun e => by
              have h1 := (right_key HOK.out hkG (by rw [← hmo]; exact e)).1
              rw [← hmo] at h1
              exact h1
            have HFMT : Hid ((ms.getD k moD).fmt = 0 ∨ (ms.getD k moD).fmt = 1 ∨ (ms.getD k moD).fmt = 2) := by
              obtain ⟨_, _, h2, h3⟩ := obOk_lt ((right_of HOK.out).ob k hkG)
              have h4 := hok_true h3
              have e : (ms.getD k moD).fmt = (G.objs.getD k obD).fmt := by rw [← hmo]; rfl
              show _ ∨ _ ∨ _
              omega
            have HNO : Hid ((ms.getD k moD).id ∉ ys → DoneI G ys k) := fun hno hin => absurd (by rw [← hmo] at hin; exact hin) hno
            clear hmo hco hcc1
            generalize ms.getD k moD = mo at *
            obtain ⟨mi, mc, mf, mh, msv, msl⟩ := mo
            simp only at x0 x1 x2 x3 x4 hsl hsv hs20 HFK HKEY HFMT HNO
            subst hsl
            have BY : Below wr.heap.size wr (wr.alloc (ob ⟨mi, mc, mf, mh, .slice sa msl.length sc, msl⟩)) := (Below.refl _ _).alloc (Nat.le_refl _) _
            have TY := five_new wr 51 (.int .i64 mi) (.int .i64 mc) (.int .i64 mf) (.int .i64 mh) (.slice sa msl.length sc)
            have OY := own_below hO BY
            have HS := l1Has_any (own_ints OY) (by omega) mi
            have HBY : Hid _ := hB.trans (BY.mono hB.size)
            have HTY : Hid _ := TY
            have HOY : Hid _ := OY
            have HSVY : Hid _ := refsAt_below hsv BY
            clear hO hgood hgo hsame hB hsv BY TY OY e2
            go_wp2_with fail
            generalize hYY : (wr.alloc (ob ⟨mi, mc, mf, mh, .slice sa msl.length sc, msl⟩)) = Y at *
            generalize hPP : wr.heap.size = P8 at *
            clear hYY
            refine HS.mono ?_
            rintro e w4 ⟨rfl, hw4⟩
            rw [hw4]
            clear HS hw4 q0 x0 x1 x2 x3 x4
            by_cases hin : mi ∈ ys
            · rw [decide_eq_true hin]
              obtain ⟨t0, t1, t2, t3, t4, _⟩ := five_cells HTY.out
              rcases HFMT.out with hf | hf | hf
              · subst hf
                obtain ⟨hFl, hsf, hdf⟩ := HFK.out ys HGY.out hin 0 (.inr (.inl ⟨rfl, rfl⟩))
                have HSF : Hid _ := hsf
                have HDF : Hid _ := hdf
                clear hsf hdf HFK HKEY HFMT HNO
                go_wp2_with fail
                go_loopw [3, 10] (fun v p wr => ∃ (i : Nat) (vv : Value) (us : List Int), vv = v ∧ i ≤ msl.length ∧ 0 ≤ i ∧ p = .int .i64 i ∧ Own wr w.heap.size vv us ∧ Good G us ∧ goesI us L ∧ ys.length ≤ us.length ∧ (us.length = ys.length → us = ys ∧ ∀ j, 0 ≤ j → j < i → (msl.getD j refD).1 = 2 → (msl.getD j refD).2 ∈ ys) ∧ Below X2.heap.size X2 wr ∧ Below Y.heap.size Y wr) (fun _ p _ => msl.length - (intOf p).toNat)
                case atStart => exact ⟨0, _, ys, rfl, hFl, Nat.le_refl _, by go_num, HOY.out, HGY.out, HGO.out, Nat.le_refl _, fun _ => ⟨rfl, fun j h1 h2 => absurd h2 (by omega)⟩, HBY.out, Below.refl _ _⟩
                case round =>
                  obtain ⟨i, vv, us, rfl, hi, hFi, rfl, hO, hgood, hgo, hle2, hsm2, hB, hBY⟩ := hrel
                  have hgl3 := HGL.out us hgood
                  obtain ⟨va3, vc3, hvv⟩ : ∃ a c, vv = .slice a us.length c := by
                    obtain ⟨a, c, e, _⟩ := own_ints hO
                    exact ⟨a, c, e⟩
                  subst hvv
                  obtain ⟨_, _, _, _, t4, _⟩ := five_cells (five_below HTY.out hBY)
                  have HO4 : Hid _ := hO
                  have HG4 : Hid _ := hgood
                  have HGO4 : Hid _ := hgo
                  have HSM4 : Hid _ := hsm2
                  have HB4 : Hid _ := hB
                  have HBY4 : Hid _ := hBY
                  by_cases hlt4 : i < msl.length
                  · obtain ⟨a', cap', e, _, _, _, hc⟩ := refsAt_below HSVY.out hBY
                    injection e with e1 e2 e3
                    subst e1 e3
                    obtain ⟨b4, off4, e4, hb4, hcc4⟩ := hc (by omega)
                    subst e4
                    obtain ⟨y0, y1⟩ := hcc4 i hlt4
                    have hme : msl.getD i refD ∈ msl.drop 0 := by
                      rw [List.getD_eq_getElem?_getD, List.getElem?_eq_getElem hlt4]
                      exact List.mem_iff_getElem.2 ⟨i - 0, by rw [List.length_drop]; omega, by rw [List.getElem_drop]; exact getElem_congr_idx (by omega)⟩
                    have hput := HSF.out _ hme
                    have HNXN : Hid (¬ (msl.getD i refD).1 = 2 → us.length = ys.length → us = ys ∧ ∀ j, 0 ≤ j → j < i + 1 → (msl.getD j refD).1 = 2 → (msl.getD j refD).2 ∈ ys) := fun hn e => by
                      obtain ⟨e1, h1⟩ := HSM4.out e
                      refine ⟨e1, fun j h2 h3 h4 => ?_⟩
                      by_cases ej : j = i
                      · rw [ej] at h4; exact absurd h4 hn
                      · exact h1 j h2 (by omega) h4
                    have HNXY : Hid ((putI (msl.getD i refD).2 us).length = ys.length → putI (msl.getD i refD).2 us = ys ∧ ∀ j, 0 ≤ j → j < i + 1 → (msl.getD j refD).1 = 2 → (msl.getD j refD).2 ∈ ys) := fun e => by
                      have hl := @len_putI (msl.getD i refD).2 us
                      have eu : us.length = ys.length := by omega
                      obtain ⟨e1, h1⟩ := HSM4.out eu
                      have e2 := hl.2.2 (by omega)
                      refine ⟨e2.trans e1, fun j h2 h3 h4 => ?_⟩
                      by_cases ej : j = i
                      · have : (msl.getD i refD).2 ∈ putI (msl.getD i refD).2 us := mem_putI.2 (.inl rfl)
                        rw [e2, e1] at this
                        rw [ej]
                        exact this
                      · exact h1 j h2 (by omega) h4
                    clear hc hcc4 e2 hme
                    generalize msl.getD i refD = e0 at *
                    obtain ⟨ek, en⟩ := e0
                    simp only at y0 y1 hput HNXN HNXY
                    by_cases he : ek = 2
                    · subst he
                      have sB := hB.size
                      have sBY := hBY.size
                      have PT := l1Put_any hO (by omega) (by omega) en
                      have HGP : Hid (Good G (putI en us)) := by
                        obtain ⟨p, hp, e⟩ := hput rfl
                        exact good_put hgood hp e
                      have HGG : Hid (goesI (putI en us) L) := goesI_mono hgo (fun a ha => mem_putI.2 (.inr ha))
                      have HLE : Hid (ys.length ≤ (putI en us).length) := Nat.le_trans hle2 (@len_putI en us).1
                      clear hO hgood hgo hsm2 hB hBY hput HNXN
                      go_wp2_with (go_at_call 61; refine PT.mono ?_; clear PT; rintro e w5 ⟨v5, rfl, o5, b5⟩; obtain ⟨va5, vn5, vc5, rfl⟩ := ints_sl (own_ints o5); have HO5 : Hid _ := o5; have HB5 : Hid _ := HB4.out.trans (b5.mono sB); have HBY5 : Hid _ := HBY4.out.trans (b5.mono sBY); clear o5 b5)
                      exact ⟨⟨i + 1, _, _, rfl, by omega, by omega, by go_num, HO5.out, HGP.out, HGG.out, HLE.out, HNXY.out, HB5.out, HBY5.out⟩, by simp [intOf]; omega⟩
                    · have he' : (ek == 2) = false := by simpa using he
                      have HNX2 : Hid _ := HNXN.out he
                      clear hO hgood hgo hsm2 hB hBY hput HNXN HNXY he
                      go_wp2
                      exact ⟨⟨i + 1, _, us, rfl, by omega, by omega, by go_num, HO4.out, HG4.out, HGO4.out, hle2, HNX2.out, HB4.out, HBY4.out⟩, by simp [intOf]; omega⟩
                  · have e : i = msl.length := by omega
                    subst e
                    have HX : Hid (us.length = xs.length → us = xs ∧ ∀ j, j < k + 1 → DoneI G xs j) := fun e => by
                      obtain ⟨e1, h1⟩ := HSM4.out (by omega)
                      obtain ⟨e2, h2⟩ := HSM.out (by omega)
                      refine ⟨e1.trans e2, fun j hj => ?_⟩
                      by_cases ej : j = k
                      · rw [ej, ← e2]
                        refine HDF.out fun r hr h3 => ?_
                        obtain ⟨n', hn', rfl⟩ := List.getElem_of_mem hr
                        rw [List.length_drop] at hn'
                        rw [List.getElem_drop] at h3 ⊢
                        have hq := h1 (0 + n') (by omega) (by omega)
                        rw [List.getD_eq_getElem?_getD, List.getElem?_eq_getElem (by omega)] at hq
                        exact hq h3
                      · exact h2 j (by omega)
                    clear hO hgood hgo hsm2 hB hBY
                    go_wp2
                    exact ⟨⟨k + 1, _, us, rfl, by omega, by go_num, HO4.out, HG4.out, HGO4.out, by omega, HX.out, HB4.out⟩, by simp [intOf]; omega⟩
              · subst hf
                obtain ⟨hFl, hsf, hdf⟩ := HFK.out ys HGY.out hin msl.length (.inl ⟨rfl, rfl⟩)
                have HSF : Hid _ := hsf
                have HDF : Hid _ := hdf
                clear hsf hdf HFK HKEY HFMT HNO
                go_wp2_with fail
                go_loopw [3, 10] (fun v p wr => ∃ (i : Nat) (vv : Value) (us : List Int), vv = v ∧ i ≤ msl.length ∧ msl.length ≤ i ∧ p = .int .i64 i ∧ Own wr w.heap.size vv us ∧ Good G us ∧ goesI us L ∧ ys.length ≤ us.length ∧ (us.length = ys.length → us = ys ∧ ∀ j, msl.length ≤ j → j < i → (msl.getD j refD).1 = 2 → (msl.getD j refD).2 ∈ ys) ∧ Below X2.heap.size X2 wr ∧ Below Y.heap.size Y wr) (fun _ p _ => msl.length - (intOf p).toNat)
                case atStart => exact ⟨msl.length, _, ys, rfl, hFl, Nat.le_refl _, by go_num, HOY.out, HGY.out, HGO.out, Nat.le_refl _, fun _ => ⟨rfl, fun j h1 h2 => absurd h2 (by omega)⟩, HBY.out, Below.refl _ _⟩
                case round =>
                  obtain ⟨i, vv, us, rfl, hi, hFi, rfl, hO, hgood, hgo, hle2, hsm2, hB, hBY⟩ := hrel
                  have hgl3 := HGL.out us hgood
                  obtain ⟨va3, vc3, hvv⟩ : ∃ a c, vv = .slice a us.length c := by
                    obtain ⟨a, c, e, _⟩ := own_ints hO
                    exact ⟨a, c, e⟩
                  subst hvv
                  obtain ⟨_, _, _, _, t4, _⟩ := five_cells (five_below HTY.out hBY)
                  have HO4 : Hid _ := hO
                  have HG4 : Hid _ := hgood
                  have HGO4 : Hid _ := hgo
                  have HSM4 : Hid _ := hsm2
                  have HB4 : Hid _ := hB
                  have HBY4 : Hid _ := hBY
                  by_cases hlt4 : i < msl.length
                  · exact absurd hlt4 (by omega)
                  · have e : i = msl.length := by omega
                    subst e
                    have HX : Hid (us.length = xs.length → us = xs ∧ ∀ j, j < k + 1 → DoneI G xs j) := fun e => by
                      obtain ⟨e1, h1⟩ := HSM4.out (by omega)
                      obtain ⟨e2, h2⟩ := HSM.out (by omega)
                      refine ⟨e1.trans e2, fun j hj => ?_⟩
                      by_cases ej : j = k
                      · rw [ej, ← e2]
                        refine HDF.out fun r hr h3 => ?_
                        obtain ⟨n', hn', rfl⟩ := List.getElem_of_mem hr
                        rw [List.length_drop] at hn'
                        rw [List.getElem_drop] at h3 ⊢
                        have hq := h1 (msl.length + n') (by omega) (by omega)
                        rw [List.getD_eq_getElem?_getD, List.getElem?_eq_getElem (by omega)] at hq
                        exact hq h3
                      · exact h2 j (by omega)
                    clear hO hgood hgo hsm2 hB hBY
                    go_wp2
                    exact ⟨⟨k + 1, _, us, rfl, by omega, by go_num, HO4.out, HG4.out, HGO4.out, by omega, HX.out, HB4.out⟩, by simp [intOf]; omega⟩
              · subst hf
                have h0 := HKEY.out rfl
                obtain ⟨a', cap', e, _, _, _, hc⟩ := id HSVY.out
                injection e with e1 e2 e3
                subst e1 e3
                obtain ⟨b0, off0, rfl, hb0, hcc0⟩ := hc h0
                obtain ⟨r0, r1⟩ := hcc0 0 h0
                rw [show off0 + 0 * 2 = off0 by omega] at r0 r1
                clear hc hcc0 e2
                have HK0 : Hid (msl.getD 0 refD = msl.getD 0 refD) := rfl
                obtain ⟨e0, he0⟩ : ∃ e0, msl.getD 0 refD = e0 := ⟨_, rfl⟩
                rw [he0] at r0 r1
                obtain ⟨k0, n0⟩ := e0
                simp only at r0 r1
                have h1n : (1 : Nat) ≤ msl.length := h0
                have HS0 := l1Has_any (own_ints HOY.out) (by omega) n0
                by_cases hk2 : k0 = 2
                · subst hk2
                  by_cases hn0 : n0 ∈ ys
                  · rw [decide_eq_true hn0] at HS0
                    obtain ⟨hFl, hsf, hdf⟩ := HFK.out ys HGY.out hin 1 (.inr (.inr (.inl ⟨rfl, rfl, fun h => h.2 (by show (msl.getD 0 refD).2 ∈ ys; rw [he0]; exact hn0)⟩)))
                    have HSF : Hid _ := hsf
                    have HDF : Hid _ := hdf
                    clear hsf hdf HFK HKEY HFMT HNO
                    go_wp2_with (go_at_call 62; refine HS0.mono ?_; clear HS0; rintro e w5 ⟨rfl, hw5⟩; rw [hw5]; clear hw5)
                    go_loopw [3, 10] (fun v p wr => ∃ (i : Nat) (vv : Value) (us : List Int), vv = v ∧ i ≤ msl.length ∧ 1 ≤ i ∧ p = .int .i64 i ∧ Own wr w.heap.size vv us ∧ Good G us ∧ goesI us L ∧ ys.length ≤ us.length ∧ (us.length = ys.length → us = ys ∧ ∀ j, 1 ≤ j → j < i → (msl.getD j refD).1 = 2 → (msl.getD j refD).2 ∈ ys) ∧ Below X2.heap.size X2 wr ∧ Below Y.heap.size Y wr) (fun _ p _ => msl.length - (intOf p).toNat)
                    case atStart => exact ⟨1, _, ys, rfl, hFl, Nat.le_refl _, by go_num, HOY.out, HGY.out, HGO.out, Nat.le_refl _, fun _ => ⟨rfl, fun j h1 h2 => absurd h2 (by omega)⟩, HBY.out, Below.refl _ _⟩
                    case round =>
                      obtain ⟨i, vv, us, rfl, hi, hFi, rfl, hO, hgood, hgo, hle2, hsm2, hB, hBY⟩ := hrel
                      have hgl3 := HGL.out us hgood
                      obtain ⟨va3, vc3, hvv⟩ : ∃ a c, vv = .slice a us.length c := by
                        obtain ⟨a, c, e, _⟩ := own_ints hO
                        exact ⟨a, c, e⟩
                      subst hvv
                      obtain ⟨_, _, _, _, t4, _⟩ := five_cells (five_below HTY.out hBY)
                      have HO4 : Hid _ := hO
                      have HG4 : Hid _ := hgood
                      have HGO4 : Hid _ := hgo
                      have HSM4 : Hid _ := hsm2
                      have HB4 : Hid _ := hB
                      have HBY4 : Hid _ := hBY
                      by_cases hlt4 : i < msl.length
                      · obtain ⟨a', cap', e, _, _, _, hc⟩ := refsAt_below HSVY.out hBY
                        injection e with e1 e2 e3
                        subst e1 e3
                        obtain ⟨b4, off4, e4, hb4, hcc4⟩ := hc (by omega)
                        injection e4 with e4
                        injection e4 with e5 e6
                        subst e5 e6
                        obtain ⟨y0, y1⟩ := hcc4 i hlt4
                        have hme : msl.getD i refD ∈ msl.drop 1 := by
                          rw [List.getD_eq_getElem?_getD, List.getElem?_eq_getElem hlt4]
                          exact List.mem_iff_getElem.2 ⟨i - 1, by rw [List.length_drop]; omega, by rw [List.getElem_drop]; exact getElem_congr_idx (by omega)⟩
                        have hput := HSF.out _ hme
                        have HNXN : Hid (¬ (msl.getD i refD).1 = 2 → us.length = ys.length → us = ys ∧ ∀ j, 1 ≤ j → j < i + 1 → (msl.getD j refD).1 = 2 → (msl.getD j refD).2 ∈ ys) := fun hn e => by
                          obtain ⟨e1, h1⟩ := HSM4.out e
                          refine ⟨e1, fun j h2 h3 h4 => ?_⟩
                          by_cases ej : j = i
                          · rw [ej] at h4; exact absurd h4 hn
                          · exact h1 j h2 (by omega) h4
                        have HNXY : Hid ((putI (msl.getD i refD).2 us).length = ys.length → putI (msl.getD i refD).2 us = ys ∧ ∀ j, 1 ≤ j → j < i + 1 → (msl.getD j refD).1 = 2 → (msl.getD j refD).2 ∈ ys) := fun e => by
                          have hl := @len_putI (msl.getD i refD).2 us
                          have eu : us.length = ys.length := by omega
                          obtain ⟨e1, h1⟩ := HSM4.out eu
                          have e2 := hl.2.2 (by omega)
                          refine ⟨e2.trans e1, fun j h2 h3 h4 => ?_⟩
                          by_cases ej : j = i
                          · have : (msl.getD i refD).2 ∈ putI (msl.getD i refD).2 us := mem_putI.2 (.inl rfl)
                            rw [e2, e1] at this
                            rw [ej]
                            exact this
                          · exact h1 j h2 (by omega) h4
                        clear hc hcc4 e2 hme
                        generalize msl.getD i refD = e0 at *
                        obtain ⟨ek, en⟩ := e0
                        simp only at y0 y1 hput HNXN HNXY
                        by_cases he : ek = 2
                        · subst he
                          have sB := hB.size
                          have sBY := hBY.size
                          have PT := l1Put_any hO (by omega) (by omega) en
                          have HGP : Hid (Good G (putI en us)) := by
                            obtain ⟨p, hp, e⟩ := hput rfl
                            exact good_put hgood hp e
                          have HGG : Hid (goesI (putI en us) L) := goesI_mono hgo (fun a ha => mem_putI.2 (.inr ha))
                          have HLE : Hid (ys.length ≤ (putI en us).length) := Nat.le_trans hle2 (@len_putI en us).1
                          clear hO hgood hgo hsm2 hB hBY hput HNXN
                          go_wp2_with (go_at_call 61; refine PT.mono ?_; clear PT; rintro e w5 ⟨v5, rfl, o5, b5⟩; obtain ⟨va5, vn5, vc5, rfl⟩ := ints_sl (own_ints o5); have HO5 : Hid _ := o5; have HB5 : Hid _ := HB4.out.trans (b5.mono sB); have HBY5 : Hid _ := HBY4.out.trans (b5.mono sBY); clear o5 b5)
                          exact ⟨⟨i + 1, _, _, rfl, by omega, by omega, by go_num, HO5.out, HGP.out, HGG.out, HLE.out, HNXY.out, HB5.out, HBY5.out⟩, by simp [intOf]; omega⟩
                        · have he' : (ek == 2) = false := by simpa using he
                          have HNX2 : Hid _ := HNXN.out he
                          clear hO hgood hgo hsm2 hB hBY hput HNXN HNXY he
                          go_wp2
                          exact ⟨⟨i + 1, _, us, rfl, by omega, by omega, by go_num, HO4.out, HG4.out, HGO4.out, hle2, HNX2.out, HB4.out, HBY4.out⟩, by simp [intOf]; omega⟩
                      · have e : i = msl.length := by omega
                        subst e
                        have HX : Hid (us.length = xs.length → us = xs ∧ ∀ j, j < k + 1 → DoneI G xs j) := fun e => by
                          obtain ⟨e1, h1⟩ := HSM4.out (by omega)
                          obtain ⟨e2, h2⟩ := HSM.out (by omega)
                          refine ⟨e1.trans e2, fun j hj => ?_⟩
                          by_cases ej : j = k
                          · rw [ej, ← e2]
                            refine HDF.out fun r hr h3 => ?_
                            obtain ⟨n', hn', rfl⟩ := List.getElem_of_mem hr
                            rw [List.length_drop] at hn'
                            rw [List.getElem_drop] at h3 ⊢
                            have hq := h1 (1 + n') (by omega) (by omega)
                            rw [List.getD_eq_getElem?_getD, List.getElem?_eq_getElem (by omega)] at hq
                            exact hq h3
                          · exact h2 j (by omega)
                        clear hO hgood hgo hsm2 hB hBY
                        go_wp2
                        exact ⟨⟨k + 1, _, us, rfl, by omega, by go_num, HO4.out, HG4.out, HGO4.out, by omega, HX.out, HB4.out⟩, by simp [intOf]; omega⟩
                  · rw [decide_eq_false hn0] at HS0
                    obtain ⟨hFl, hsf, hdf⟩ := HFK.out ys HGY.out hin msl.length (.inr (.inr (.inr ⟨rfl, rfl, by show (msl.getD 0 refD).1 = 2; rw [he0], by show (msl.getD 0 refD).2 ∉ ys; rw [he0]; exact hn0⟩)))
                    have HSF : Hid _ := hsf
                    have HDF : Hid _ := hdf
                    clear hsf hdf HFK HKEY HFMT HNO
                    go_wp2_with (go_at_call 62; refine HS0.mono ?_; clear HS0; rintro e w5 ⟨rfl, hw5⟩; rw [hw5]; clear hw5)
                    go_loopw [3, 10] (fun v p wr => ∃ (i : Nat) (vv : Value) (us : List Int), vv = v ∧ i ≤ msl.length ∧ msl.length ≤ i ∧ p = .int .i64 i ∧ Own wr w.heap.size vv us ∧ Good G us ∧ goesI us L ∧ ys.length ≤ us.length ∧ (us.length = ys.length → us = ys ∧ ∀ j, msl.length ≤ j → j < i → (msl.getD j refD).1 = 2 → (msl.getD j refD).2 ∈ ys) ∧ Below X2.heap.size X2 wr ∧ Below Y.heap.size Y wr) (fun _ p _ => msl.length - (intOf p).toNat)
                    case atStart => exact ⟨msl.length, _, ys, rfl, hFl, Nat.le_refl _, by go_num, HOY.out, HGY.out, HGO.out, Nat.le_refl _, fun _ => ⟨rfl, fun j h1 h2 => absurd h2 (by omega)⟩, HBY.out, Below.refl _ _⟩
                    case round =>
                      obtain ⟨i, vv, us, rfl, hi, hFi, rfl, hO, hgood, hgo, hle2, hsm2, hB, hBY⟩ := hrel
                      have hgl3 := HGL.out us hgood
                      obtain ⟨va3, vc3, hvv⟩ : ∃ a c, vv = .slice a us.length c := by
                        obtain ⟨a, c, e, _⟩ := own_ints hO
                        exact ⟨a, c, e⟩
                      subst hvv
                      obtain ⟨_, _, _, _, t4, _⟩ := five_cells (five_below HTY.out hBY)
                      have HO4 : Hid _ := hO
                      have HG4 : Hid _ := hgood
                      have HGO4 : Hid _ := hgo
                      have HSM4 : Hid _ := hsm2
                      have HB4 : Hid _ := hB
                      have HBY4 : Hid _ := hBY
                      by_cases hlt4 : i < msl.length
                      · exact absurd hlt4 (by omega)
                      · have e : i = msl.length := by omega
                        subst e
                        have HX : Hid (us.length = xs.length → us = xs ∧ ∀ j, j < k + 1 → DoneI G xs j) := fun e => by
                          obtain ⟨e1, h1⟩ := HSM4.out (by omega)
                          obtain ⟨e2, h2⟩ := HSM.out (by omega)
                          refine ⟨e1.trans e2, fun j hj => ?_⟩
                          by_cases ej : j = k
                          · rw [ej, ← e2]
                            refine HDF.out fun r hr h3 => ?_
                            obtain ⟨n', hn', rfl⟩ := List.getElem_of_mem hr
                            rw [List.length_drop] at hn'
                            rw [List.getElem_drop] at h3 ⊢
                            have hq := h1 (msl.length + n') (by omega) (by omega)
                            rw [List.getD_eq_getElem?_getD, List.getElem?_eq_getElem (by omega)] at hq
                            exact hq h3
                          · exact h2 j (by omega)
                        clear hO hgood hgo hsm2 hB hBY
                        go_wp2
                        exact ⟨⟨k + 1, _, us, rfl, by omega, by go_num, HO4.out, HG4.out, HGO4.out, by omega, HX.out, HB4.out⟩, by simp [intOf]; omega⟩
                · have hk2' : (k0 == 2) = false := by simpa using hk2
                  obtain ⟨hFl, hsf, hdf⟩ := HFK.out ys HGY.out hin 1 (.inr (.inr (.inl ⟨rfl, rfl, fun h => hk2 (by have := h.1; rw [show (MO.abs ⟨mi, mc, 2, mh, _, msl⟩).slots = msl from rfl, he0] at this; exact this)⟩)))
                  have HSF : Hid _ := hsf
                  have HDF : Hid _ := hdf
                  clear hsf hdf HFK HKEY HFMT HNO
                  go_wp2_with fail
                  go_loopw [3, 10] (fun v p wr => ∃ (i : Nat) (vv : Value) (us : List Int), vv = v ∧ i ≤ msl.length ∧ 1 ≤ i ∧ p = .int .i64 i ∧ Own wr w.heap.size vv us ∧ Good G us ∧ goesI us L ∧ ys.length ≤ us.length ∧ (us.length = ys.length → us = ys ∧ ∀ j, 1 ≤ j → j < i → (msl.getD j refD).1 = 2 → (msl.getD j refD).2 ∈ ys) ∧ Below X2.heap.size X2 wr ∧ Below Y.heap.size Y wr) (fun _ p _ => msl.length - (intOf p).toNat)
                  case atStart => exact ⟨1, _, ys, rfl, hFl, Nat.le_refl _, by go_num, HOY.out, HGY.out, HGO.out, Nat.le_refl _, fun _ => ⟨rfl, fun j h1 h2 => absurd h2 (by omega)⟩, HBY.out, Below.refl _ _⟩
                  case round =>
                    obtain ⟨i, vv, us, rfl, hi, hFi, rfl, hO, hgood, hgo, hle2, hsm2, hB, hBY⟩ := hrel
                    have hgl3 := HGL.out us hgood
                    obtain ⟨va3, vc3, hvv⟩ : ∃ a c, vv = .slice a us.length c := by
                      obtain ⟨a, c, e, _⟩ := own_ints hO
                      exact ⟨a, c, e⟩
                    subst hvv
                    obtain ⟨_, _, _, _, t4, _⟩ := five_cells (five_below HTY.out hBY)
                    have HO4 : Hid _ := hO
                    have HG4 : Hid _ := hgood
                    have HGO4 : Hid _ := hgo
                    have HSM4 : Hid _ := hsm2
                    have HB4 : Hid _ := hB
                    have HBY4 : Hid _ := hBY
                    by_cases hlt4 : i < msl.length
                    · obtain ⟨a', cap', e, _, _, _, hc⟩ := refsAt_below HSVY.out hBY
                      injection e with e1 e2 e3
                      subst e1 e3
                      obtain ⟨b4, off4, e4, hb4, hcc4⟩ := hc (by omega)
                      injection e4 with e4
                      injection e4 with e5 e6
                      subst e5 e6
                      obtain ⟨y0, y1⟩ := hcc4 i hlt4
                      have hme : msl.getD i refD ∈ msl.drop 1 := by
                        rw [List.getD_eq_getElem?_getD, List.getElem?_eq_getElem hlt4]
                        exact List.mem_iff_getElem.2 ⟨i - 1, by rw [List.length_drop]; omega, by rw [List.getElem_drop]; exact getElem_congr_idx (by omega)⟩
                      have hput := HSF.out _ hme
                      have HNXN : Hid (¬ (msl.getD i refD).1 = 2 → us.length = ys.length → us = ys ∧ ∀ j, 1 ≤ j → j < i + 1 → (msl.getD j refD).1 = 2 → (msl.getD j refD).2 ∈ ys) := fun hn e => by
                        obtain ⟨e1, h1⟩ := HSM4.out e
                        refine ⟨e1, fun j h2 h3 h4 => ?_⟩
                        by_cases ej : j = i
                        · rw [ej] at h4; exact absurd h4 hn
                        · exact h1 j h2 (by omega) h4
                      have HNXY : Hid ((putI (msl.getD i refD).2 us).length = ys.length → putI (msl.getD i refD).2 us = ys ∧ ∀ j, 1 ≤ j → j < i + 1 → (msl.getD j refD).1 = 2 → (msl.getD j refD).2 ∈ ys) := fun e => by
                        have hl := @len_putI (msl.getD i refD).2 us
                        have eu : us.length = ys.length := by omega
                        obtain ⟨e1, h1⟩ := HSM4.out eu
                        have e2 := hl.2.2 (by omega)
                        refine ⟨e2.trans e1, fun j h2 h3 h4 => ?_⟩
                        by_cases ej : j = i
                        · have : (msl.getD i refD).2 ∈ putI (msl.getD i refD).2 us := mem_putI.2 (.inl rfl)
                          rw [e2, e1] at this
                          rw [ej]
                          exact this
                        · exact h1 j h2 (by omega) h4
                      clear hc hcc4 e2 hme
                      generalize msl.getD i refD = e0 at *
                      obtain ⟨ek, en⟩ := e0
                      simp only at y0 y1 hput HNXN HNXY
                      by_cases he : ek = 2
                      · subst he
                        have sB := hB.size
                        have sBY := hBY.size
                        have PT := l1Put_any hO (by omega) (by omega) en
                        have HGP : Hid (Good G (putI en us)) := by
                          obtain ⟨p, hp, e⟩ := hput rfl
                          exact good_put hgood hp e
                        have HGG : Hid (goesI (putI en us) L) := goesI_mono hgo (fun a ha => mem_putI.2 (.inr ha))
                        have HLE : Hid (ys.length ≤ (putI en us).length) := Nat.le_trans hle2 (@len_putI en us).1
                        clear hO hgood hgo hsm2 hB hBY hput HNXN
                        go_wp2_with (go_at_call 61; refine PT.mono ?_; clear PT; rintro e w5 ⟨v5, rfl, o5, b5⟩; obtain ⟨va5, vn5, vc5, rfl⟩ := ints_sl (own_ints o5); have HO5 : Hid _ := o5; have HB5 : Hid _ := HB4.out.trans (b5.mono sB); have HBY5 : Hid _ := HBY4.out.trans (b5.mono sBY); clear o5 b5)
                        exact ⟨⟨i + 1, _, _, rfl, by omega, by omega, by go_num, HO5.out, HGP.out, HGG.out, HLE.out, HNXY.out, HB5.out, HBY5.out⟩, by simp [intOf]; omega⟩
                      · have he' : (ek == 2) = false := by simpa using he
                        have HNX2 : Hid _ := HNXN.out he
                        clear hO hgood hgo hsm2 hB hBY hput HNXN HNXY he
                        go_wp2
                        exact ⟨⟨i + 1, _, us, rfl, by omega, by omega, by go_num, HO4.out, HG4.out, HGO4.out, hle2, HNX2.out, HB4.out, HBY4.out⟩, by simp [intOf]; omega⟩
                    · have e : i = msl.length := by omega
                      subst e
                      have HX : Hid (us.length = xs.length → us = xs ∧ ∀ j, j < k + 1 → DoneI G xs j) := fun e => by
                        obtain ⟨e1, h1⟩ := HSM4.out (by omega)
                        obtain ⟨e2, h2⟩ := HSM.out (by omega)
                        refine ⟨e1.trans e2, fun j hj => ?_⟩
                        by_cases ej : j = k
                        · rw [ej, ← e2]
                          refine HDF.out fun r hr h3 => ?_
                          obtain ⟨n', hn', rfl⟩ := List.getElem_of_mem hr
                          rw [List.length_drop] at hn'
                          rw [List.getElem_drop] at h3 ⊢
                          have hq := h1 (1 + n') (by omega) (by omega)
                          rw [List.getD_eq_getElem?_getD, List.getElem?_eq_getElem (by omega)] at hq
                          exact hq h3
                        · exact h2 j (by omega)
                      clear hO hgood hgo hsm2 hB hBY
                      go_wp2
                      exact ⟨⟨k + 1, _, us, rfl, by omega, by go_num, HO4.out, HG4.out, HGO4.out, by omega, HX.out, HB4.out⟩, by simp [intOf]; omega⟩
            · rw [decide_eq_false hin]
              have HX : Hid (ys.length = xs.length → ys = xs ∧ ∀ j, j < k + 1 → DoneI G xs j) := fun e => by
                obtain ⟨e1, h1⟩ := HSM.out e
                refine ⟨e1, fun j hj => ?_⟩
                by_cases ej : j = k
                · rw [ej, ← e1]; exact HNO.out hin
                · exact h1 j (by omega)
              clear hin
              go_wp2
              exact ⟨⟨k + 1, _, ys, rfl, by omega, by go_num, HOY.out, HGY.out, HGO.out, hle, HX.out, HBY.out⟩, by simp [intOf]; omega⟩
          · have e : k = ms.length := by omega
            subst e
            by_cases he : ys.length = xs.length
            · obtain ⟨e1, hd⟩ := hsame he
              subst e1
              have hfin : ys = zs := isR_unique (good_all HOK.out hgood (by rw [HLL.out]; exact hgo) (fun j hj => hd j (by rw [HLEN.out]; exact hj))) HZ.out
              subst hfin
              have HF : Hid (Own wr w.heap.size (.slice va2 ys.length vc2) ys) := hO
              have HFB : Hid (Below w.heap.size w wr) := HB2.out.trans (hB.mono sz2)
              have hll : ((ys.length : Int) == (ys.length : Int)) = true := by simp
              clear hO hgood hgo hsame hB hd he
              go_wp2
              go_ret
              exact ⟨_, rfl, HF.out, HFB.out⟩
            · have hll : ((ys.length : Int) == (xs.length : Int)) = false := by
                rw [beq_eq_false_iff_ne]
                omega
              have hlt2 : xs.length < ys.length := by omega
              clear hO hgood hgo hsame hB
              go_wp2
              exact ⟨⟨_, ys, rfl, HO.out, HGY.out, HGO.out, HB.out⟩, by simp [slen]; omega⟩
end Go.Proofs.Ytdogibjgogcdkal.gr
namespace Go.Proofs.Ytdogibjgogcdkal.gr
open Go.RowKit rows heads
set_option maxRecDepth 100000
set_option linter.unusedVariables false

set_option maxHeartbeats 4000000 in
theorem sReached_any {w : World} {o r m : Value} {ms : List MO} {G : Gr} (h : GraphAt w o r m ms G) (hs : gSize ms G ≤ 1048576) {xs : List Int} (hx : IsReached G xs) :
    Calls Try.prog 9 #[gv o r m G.next G.seed] w fun e w' => ∃ v, e = .returned v ∧ Own w' w.heap.size v xs ∧ Below w.heap.size w w' := by
  obtain ⟨a1, n1, c1, a2, n2, c2, a3, n3, c3, e1, e2, e3⟩ := graphAt_slices h
  subst e1 e2 e3
  have B : Below w.heap.size w (w.alloc (gb (.slice a1 n1 c1) (.slice a2 n2 c2) (.slice a3 n3 c3) G.next G.seed)) := (Below.refl _ w).alloc (Nat.le_refl _) _
  have T := five_new w 32 (.slice a1 n1 c1) (.slice a2 n2 c2) (.slice a3 n3 c3) (.int .i64 G.next) (.int .i64 G.seed)
  have GO := sGraphOk_any (graphAt_below h B) hs
  have HG : Hid _ := h
  have HB : Hid _ := B
  have HT : Hid _ := T
  have HX : Hid _ := hx
  clear h B T hx
  go_enter Try.func9, Try.ntmps9
  go_wp2_with fail
  generalize hX : (w.alloc (gb (.slice a1 n1 c1) (.slice a2 n2 c2) (.slice a3 n3 c3) G.next G.seed)) = X at *
  clear hX
  refine GO.mono ?_
  rintro e w1 ⟨rfl, b1⟩
  have B1 := HB.out.trans (b1.mono HB.out.size)
  have T1 := five_below HT.out b1
  have HB1 : Hid _ := B1
  clear GO HB HT b1
  cases ok : gOk G
  · have hxs : xs = [] := by
      rcases HX.out with ⟨_, e⟩ | ⟨e, _⟩
      · exact e
      · rw [ok] at e; cases e
    subst hxs
    have HF : Hid (Own (w1.alloc (.cells #[] 2)) w.heap.size (.slice (some ⟨w1.heap.size, 0, none⟩) 0 0) []) := ⟨rfl, .inr ⟨w1.heap.size, 0, #[], rfl, B1.size, heap_alloc_new w1 _, Nat.le_refl _, by decide, rfl, rfl⟩⟩
    have HFB : Hid (Below w.heap.size w (w1.alloc (.cells #[] 2))) := B1.alloc B1.size _
    clear B1 T1 HG HX
    go_wp2
    go_ret
    exact ⟨_, rfl, HF.out, HFB.out⟩
  · have hxs : IsR G xs := by
      rcases HX.out with ⟨e, _⟩ | ⟨_, e⟩
      · rw [ok] at e; cases e
      · exact e
    have L7 := l7Reached_any (graphAt_below HG.out B1) ok hxs
    obtain ⟨z0, z1, z2, z3, z4, _⟩ := five_cells T1
    have sz1 := B1.size
    clear B1 T1 HG HX hxs
    go_wp2_with fail
    refine L7.mono ?_
    rintro e w2 ⟨v, rfl, O2, b2⟩
    obtain ⟨va, vn, vc, rfl⟩ := ints_sl (own_ints O2)
    have HF : Hid (Own w2 w.heap.size _ xs) := own_base O2 sz1
    have HFB : Hid _ := HB1.out.trans (b2.mono sz1)
    clear L7 O2 b2
    go_wp2
    go_ret
    exact ⟨_, rfl, HF.out, HFB.out⟩
end Go.Proofs.Ytdogibjgogcdkal.gr
namespace Go.Proofs.Ytdogibjgogcdkal.rows
open Go.RowKit
set_option maxRecDepth 100000

theorem ints_len {w : World} {a : Option Addr} {n cap : Nat} {es : List Int} (h : IntsAt w (.slice a n cap) es) : es.length = n ∧ (a = none → n = 0) := by
  obtain ⟨a', cap', e, h1, _, h2, _⟩ := h
  injection e with e1 e2 e3
  subst e1 e2 e3
  exact ⟨rfl, fun ha => by have := h2 ha; omega⟩
theorem src_ints {w : World} {a : Option Addr} {n cap : Nat} {es : List Int} (h : IntsAt w (.slice a n cap) es) : Src Try.prog 1 27 (.slice a n cap) n (cellsOf es) w := by
  obtain ⟨hl, hz⟩ := ints_len h
  cases a with
  | none =>
    have hn := hz rfl
    have e : es = [] := List.eq_nil_of_length_eq_zero (by omega)
    subst e hn
    exact ⟨.inl ⟨_, Try.underlying27⟩, fun w' => by simp [Builtin.lenOf], by simp [Builtin.firstCells], by simp [Builtin.firstCells], by simp, fun u hu => by simp at hu⟩
  | some ad =>
    have hc : (cellsOf es).length = n * 1 := by simp [hl]
    exact ⟨.inl ⟨_, Try.underlying27⟩, fun w' => by simp [Builtin.lenOf], run_firstCells_some w 1 n ad n cap (cellsOf es) hc (ints_news h), run_firstCells_some w.drew 1 n ad n cap (cellsOf es) hc (ints_news (w := w.drew) h), hc, ints_oneCell _ _⟩

/-- Onto an empty list of no room. -/
theorem run_app0I {w : World} {g : Nat} {a : Option Addr} {n cap : Nat} {es : List Int} (h : IntsAt w (.slice a n cap) es) (hl : n ≤ 1048576) (hg : w.heap[g]? = some (.cells #[] 2 (0, 0))) (ty : TypeId) :
    ∃ (q c : Nat) (w' : World), (Builtin.append_ #[27, 27] ty #[.slice (some ⟨g, 0, none⟩) 0 0, .slice a n cap]).run Try.prog w = .ok (.slice (some ⟨q, 0, none⟩) n c) w' ∧ (q = g ∨ w.heap.size ≤ q) ∧ (∀ base, base ≤ q → w'.ownsRow base 2 1 (.slice (some ⟨q, 0, none⟩) n c) n (cellsOf es)) ∧ Below w.heap.size w w' := by
  obtain ⟨i0, hi, hz0, hz1, hz2⟩ := info_parts info
  have S := src_ints h
  obtain ⟨hlen, _⟩ := ints_len h
  have ho : ∀ {w' : World} {q c base : Nat} (cur : Array Value), base ≤ q → w'.heap[q]? = some (.cells cur 2 (0, 0)) → n ≤ c → c ≤ maxLen → cur.size = c * 1 → cur.toList.take (n * 1) = cellsOf es → w'.ownsRow base 2 1 (.slice (some ⟨q, 0, none⟩) n c) n (cellsOf es) := by
    intro w' q c base cur h1 h2 h3 h4 h5 h6
    exact ⟨by simp [hlen], .inr ⟨q, c, cur, rfl, h1, h2, h3, h4, h5, h6⟩⟩
  rcases Nat.eq_zero_or_pos n with h0 | hp
  · subst h0
    have e : es = [] := List.eq_nil_of_length_eq_zero hlen
    subst e
    have hr := run_append_nothing w 27 27 ty 2 i0 Try.underlying27 hi (some ⟨g, 0, none⟩) 0 0 (Nat.le_refl _) (.slice a 0 cap) (by rw [hz1]; exact S)
    exact ⟨g, 0, w, hr, .inl rfl, fun base hb => ho #[] hb hg (Nat.le_refl _) (by decide) rfl rfl, Below.refl _ _⟩
  · have hold : (Builtin.firstCells i0.size 0 (.slice (some ⟨g, 0, none⟩) 0 0)).run Try.prog w.drew = .ok ([] : List Value).toArray w.drew := run_firstCells_some w.drew i0.size 0 ⟨g, 0, none⟩ 0 0 [] (by simp) (fun j v hj => by simp at hj)
    have hr := run_append_grow_src w 27 27 ty 2 i0 (.int .i64 0) Try.underlying27 hi hz0 (some ⟨g, 0, none⟩) 0 0 [] hold (.slice a n cap) n (cellsOf es) (by rw [hz1]; exact S) (by omega) (by omega) (by rw [hz2]; exact growslice_fits (by omega) (by omega))
    have hge := grownCap_ge w (0 + n) 0 2
    have hcm : grownCap w (0 + n) 0 2 ≤ maxLen := grownCap_le_maxLen w (0 + n) 0 2 (by unfold maxLen; omega)
    rw [Nat.zero_add] at hr hge hcm
    refine ⟨w.heap.size, _, _, hr, .inr (Nat.le_refl _), fun base hb => ho _ hb (heap_alloc_new w.drew _) hge hcm ?_ ?_, ⟨rfl, rfl, rfl, by simp, fun j hj => Below.heap_alloc w.drew _ j hj⟩⟩
    · simp [Builtin.zeroCells, Value.cells, hlen]
      omega
    · simp only [List.nil_append, Array.toList_append]
      exact List.take_left' (by simp [hlen])
end Go.Proofs.Ytdogibjgogcdkal.rows
namespace Go.Proofs.Ytdogibjgogcdkal.gr
open Go.RowKit rows heads region
set_option maxRecDepth 100000
set_option linter.unusedVariables false
set_option linter.unusedSimpArgs false

theorem rq_ld (b k : Nat) (w : World) {x : Int} (h : w.cell? ⟨b, k, none⟩ = some (.int .i64 x)) : (Instr.loadAt 2 (.pointer (some ⟨b, k, none⟩))).run Try.prog w = .ok (.int .i64 x) w := by
  go_simp
theorem rq_nil (w : World) : (Instr.buildSlice 27 0 #[]).run Try.prog w = .ok (.slice (some ⟨w.heap.size, 0, none⟩) 0 0) (w.alloc (.cells #[] 2)) := by
  go_simp
theorem rq_one (x : Int) (w : World) : (Instr.buildSlice 27 1 #[(0, .int .i64 x)]).run Try.prog w = .ok (.slice (some ⟨w.heap.size, 0, none⟩) 1 1) (w.alloc (.cells #[.int .i64 x] 2)) := by
  go_simp
/-- What is known of each slot; what was used up is known no more. -/
def FP (n0 kk m : Nat) (x : Int) (T D : List Int) (lv pv rv fp : Value) (l : Array Bool) (k : Nat) (t : Value) (W : World) : Prop :=
  match k with
  | 0 => ∃ g, t = .slice (some ⟨g, 0, none⟩) 0 0 ∧ n0 ≤ g ∧ (l.getD 4 false = true ∨ W.heap[g]? = some (.cells #[] 2 (0, 0)))
  | 1 => t = lv
  | 2 => t = .int .i64 (kk : Int)
  | 3 => t = pv
  | 4 => l.getD 8 false = true ∨ W.ownsRow n0 2 1 t kk (cellsOf T)
  | 5 => t = fp
  | 6 => t = .int .i64 x
  | 7 => ∃ b, t = .slice (some ⟨b, 0, none⟩) 1 1 ∧ (l.getD 8 false = true ∨ W.heap[b]? = some (.cells #[.int .i64 x] 2 (0, 0)))
  | 8 => l.getD 10 false = true ∨ W.ownsRow n0 2 1 t (kk + 1) (cellsOf T ++ [.int .i64 x])
  | 9 => t = rv
  | 10 => W.ownsRow n0 2 1 t (kk + 1 + m) ((cellsOf T ++ [.int .i64 x]) ++ cellsOf D)
  | _ => False
theorem set_true {l : Array Bool} {k j : Nat} (h : l.getD j false = true) : (l.setIfInBounds k true).getD j false = true := by
  by_cases e : k = j
  · subst e
    have hk : k < l.size := by
      rcases Nat.lt_or_ge k l.size with q | q
      · exact q
      · simp [Array.getD, Nat.not_lt.2 q] at h
    exact listed_ne hk
  · rw [getD_other l e]; exact h
/-- What is known stays known where the world only grows. -/
theorem FP_st {n0 kk m : Nat} {x : Int} {T D : List Int} {lv pv rv fp : Value} {l : Array Bool} (k : Nat) {j : Nat} {t : Value} {W W' : World} (hb : Below W.heap.size W W') (h : FP n0 kk m x T D lv pv rv fp l j t W) : FP n0 kk m x T D lv pv rv fp (l.setIfInBounds k true) j t W' := by
  match j, h with
  | 0, ⟨g, h1, h2, h3⟩ => exact ⟨g, h1, h2, h3.imp set_true (fun e => (hb.block g (lt_of_block e)).trans e)⟩
  | 1, h => exact h
  | 2, h => exact h
  | 3, h => exact h
  | 4, h => exact h.imp set_true (fun e => row_below e hb)
  | 5, h => exact h
  | 6, h => exact h
  | 7, ⟨b, h1, h3⟩ => exact ⟨b, h1, h3.imp set_true (fun e => (hb.block b (lt_of_block e)).trans e)⟩
  | 8, h => exact h.imp set_true (fun e => row_below e hb)
  | 9, h => exact h
  | 10, h => exact row_below h hb
  | _ + 11, h => exact h.elim

set_option maxHeartbeats 8000000 in
theorem regPut {id : Nat} {ops : Array Oper} {a0 : Act} {Q : Exit → Act → World → Prop} {w : World} {s0 ls rs P7 fd kk m : Nat} {x : Int} {T D : List Int} {lv pv rv : Value} {a : Option Addr} {cap gr cr : Nat} (hg : ∀ o ∈ ops, o.guard = none) (hacyc : ∀ (k : Nat) (o : Oper), ops[k]? = some o → ∀ e ∈ o.after, e.on < k) (hn : ops.size = 12)
    (h0 : Has ops 0 (some s0) (.buildSlice 27 0 #[]) [])
    (h1 : Has ops 1 (some (s0 + 1)) (.move (.tmp ls)) [])
    (h2 : Has ops 2 (some (s0 + 2)) (.move (.tmp 8)) [])
    (h3 : Has ops 3 (some (s0 + 3)) (.slice 27 (.tmp (s0 + 1)) none (some (.tmp (s0 + 2))) none) [1, 2])
    (h4 : Has ops 4 (some (s0 + 4)) (.call { callee := .builtin .append, args := #[.tmp s0, .tmp (s0 + 3)], argTypes := #[27, 27] }) [0, 3])
    (h5 : Has ops 5 (some (s0 + 5)) (.fieldAddr 51 (.tmp 7) fd) [])
    (h6 : Has ops 6 (some (s0 + 6)) (.load 2 (.tmp (s0 + 5))) [5])
    (h7 : Has ops 7 (some (s0 + 7)) (.buildSlice 27 1 #[(0, .tmp (s0 + 6))]) [6])
    (h8 : Has ops 8 (some (s0 + 8)) (.call { callee := .builtin .append, args := #[.tmp (s0 + 4), .tmp (s0 + 7)], argTypes := #[27, 27] }) [4, 7])
    (h9 : Has ops 9 (some (s0 + 9)) (.move (.tmp rs)) [])
    (h10 : Has ops 10 (some (s0 + 10)) (.call { callee := .builtin .append, args := #[.tmp (s0 + 8), .tmp (s0 + 9)], argTypes := #[27, 27] }) [8, 9])
    (h11 : Has ops 11 (some ls) (.assign (.tmp (s0 + 10))) [0, 1, 2, 3, 4, 5, 6, 7, 8, 9, 10])
    (hls : ls < s0) (hls8 : ls ≠ 8) (hls7 : ls ≠ 7) (hrs : rs < s0) (hlr : ls ≠ rs) (h8s : 8 < s0) (sz : s0 + 10 < a0.tmps.size)
    (el : a0.tmps.getD ls undef = lv) (e8 : a0.tmps.getD 8 undef = .int .i64 (kk : Int)) (er : a0.tmps.getD rs undef = rv) (e7 : a0.tmps.getD 7 undef = .pointer (some ⟨P7, 0, none⟩))
    (hcut : ∀ W, (Instr.sliceAt 27 lv none (some (.int .i64 (kk : Int))) none).run Try.prog W = .ok pv W)
    (hfa : ∀ W, (Instr.fieldAt 51 (.pointer (some ⟨P7, 0, none⟩)) fd).run Try.prog W = .ok (.pointer (some ⟨P7, fd, none⟩)) W)
    (l7 : P7 < w.heap.size) (n7 : w.cell? ⟨P7, fd, none⟩ = some (.int .i64 x))
    (hpv : pv = .slice a kk cap) (hT : IntsAt w (.slice a kk cap) T) (hrv : rv = .slice (some ⟨gr, 0, none⟩) m cr) (hD : IntsAt w (.slice (some ⟨gr, 0, none⟩) m cr) D) (hkk : kk ≤ 1000) (hm : m ≤ 1000)
    (fin : ∀ u w' v, u ls = v → w'.ownsRow w.heap.size 2 1 v (kk + 1 + m) ((cellsOf T ++ [.int .i64 x]) ++ cellsOf D) → Below w.heap.size w w' → Q .normal (ovr (fun s => s == ls || (decide (s0 ≤ s) && decide (s ≤ s0 + 10))) a0 u) w') :
    (Code.region id ops true).wp Try.prog Q a0 w := by
  obtain ⟨i0, hi0, hz0, hz1, hz2⟩ := info_parts info
  have hin : ∀ j, j ≤ 10 → (fun s => s == ls || (decide (s0 ≤ s) && decide (s ≤ s0 + 10))) (s0 + j) = true := fun j hj => by simp; omega
  refine wp_region_facts (by kernel_rfl) (fun s => s == ls || (decide (s0 ≤ s) && decide (s ≤ s0 + 10))) hg hacyc (fun l u W => (l.getD 11 false = false ∧ Below w.heap.size w W ∧ (l.getD 10 false = true → l.getD 8 false = true) ∧ (l.getD 8 false = true → l.getD 4 false = true) ∧ u ls = lv ∧ ∀ k, k < 11 → l.getD k false = true → FP w.heap.size kk m x T D lv pv rv (.pointer (some ⟨P7, fd, none⟩)) l k (u (s0 + k)) W) ∨ ((∀ k, k < 12 → l.getD k false = true) ∧ Q .normal (ovr (fun s => s == ls || (decide (s0 ≤ s) && decide (s ≤ s0 + 10))) a0 u) W)) (.inl ⟨?_, (Below.refl _ w).drew, fun h => ?_, fun h => ?_, el, fun k hk h => ?_⟩) ?_ ?_
  · simp [Array.getD, hn]
  · simp [Array.getD, hn] at h
  · simp [Array.getD, hn] at h
  · simp [Array.getD, hn, show k < 12 by omega] at h
  · rintro l u W (⟨h1, _⟩ | ⟨_, h⟩) hA
    · rw [hA 11 (by omega)] at h1
      cases h1
    · exact h
  · rintro l u W k o (⟨l11, hB, l108, l84, hul, hF⟩ | ⟨hA, _⟩) hl hlk ho hd
    case inr =>
      have hk : k < 12 := by rw [← hn]; exact (Array.getElem?_eq_some_iff.1 ho).1
      rw [hA k hk] at hlk
      cases hlk
    have hk : k < 12 := by rw [← hn]; exact (Array.getElem?_eq_some_iff.1 ho).1
    have ev : ∀ j, j ≤ 10 → (ovr (fun s => s == ls || (decide (s0 ≤ s) && decide (s ≤ s0 + 10))) a0 u).eval (.tmp (s0 + j)) = u (s0 + j) := fun j hj => eval_in (hin j hj) (Nat.lt_of_le_of_lt (Nat.add_le_add_left hj s0) sz)
    have evo : ∀ s, s < s0 → s ≠ ls → (ovr (fun s => s == ls || (decide (s0 ≤ s) && decide (s ≤ s0 + 10))) a0 u).eval (.tmp s) = a0.tmps.getD s undef := fun s h1 h2 => eval_out (by simp [h2]; omega) (by omega)
    have mono : ∀ {W' : World} {v : Value}, k < 11 → Below W.heap.size W W' → (k = 10 → l.getD 8 false = true) → (k = 8 → l.getD 4 false = true) → FP w.heap.size kk m x T D lv pv rv (.pointer (some ⟨P7, fd, none⟩)) (l.setIfInBounds k true) k v W' → (((l.setIfInBounds k true).getD 11 false = false ∧ Below w.heap.size w W' ∧ ((l.setIfInBounds k true).getD 10 false = true → (l.setIfInBounds k true).getD 8 false = true) ∧ ((l.setIfInBounds k true).getD 8 false = true → (l.setIfInBounds k true).getD 4 false = true) ∧ upd u (s0 + k) v ls = lv ∧ ∀ j, j < 11 → (l.setIfInBounds k true).getD j false = true → FP w.heap.size kk m x T D lv pv rv (.pointer (some ⟨P7, fd, none⟩)) (l.setIfInBounds k true) j (upd u (s0 + k) v (s0 + j)) W') ∨ ((∀ j, j < 12 → (l.setIfInBounds k true).getD j false = true) ∧ Q .normal (ovr (fun s => s == ls || (decide (s0 ≤ s) && decide (s ≤ s0 + 10))) a0 (upd u (s0 + k) v)) W')) := fun {W' v} h11 hb h10 h8' hv => by
      refine .inl ⟨by rw [getD_other l (by omega)]; exact l11, hB.trans (hb.mono hB.size), fun h => ?_, fun h => ?_, by simp [upd, show ¬ ls = s0 + k by omega, hul], fun j hj hlj => ?_⟩
      · by_cases e : k = 10
        · exact set_true (h10 e)
        · rw [getD_other l e] at h; exact set_true (l108 h)
      · by_cases e : k = 8
        · exact set_true (h8' e)
        · rw [getD_other l e] at h; exact set_true (l84 h)
      · by_cases e : j = k
        · subst e
          simp only [upd, if_true]
          exact hv
        · have : ¬ s0 + j = s0 + k := by omega
          simp only [upd, this, if_false]
          rw [getD_other l (Ne.symm e)] at hlj
          exact FP_st k hb (hF j hj hlj)
    rcases (show k = 0 ∨ k = 1 ∨ k = 2 ∨ k = 3 ∨ k = 4 ∨ k = 5 ∨ k = 6 ∨ k = 7 ∨ k = 8 ∨ k = 9 ∨ k = 10 ∨ k = 11 by omega) with rfl | rfl | rfl | rfl | rfl | rfl | rfl | rfl | rfl | rfl | rfl | rfl
    · obtain ⟨hdst, op, dep⟩ := has_at h0 ho hd
      refine wp_value (by simp [execOp, op, rq_nil, Result.andThen]) ⟨_, put_in hdst (hin 0 (by decide)) u _, mono (by decide) ((Below.refl _ W).alloc (Nat.le_refl _) _) (fun e => absurd e (by decide)) (fun e => absurd e (by decide)) ⟨W.heap.size, rfl, hB.size, .inr (heap_alloc_new W _)⟩⟩
    · obtain ⟨hdst, op, dep⟩ := has_at h1 ho hd
      have y : (ovr (fun s => s == ls || (decide (s0 ≤ s) && decide (s ≤ s0 + 10))) a0 u).eval (.tmp ls) = lv := (eval_in (by simp) (by omega)).trans hul
      exact wp_value (w' := W) (by simp [execOp, op, y, Result.andThen]) ⟨_, put_in hdst (hin 1 (by decide)) u _, mono (by decide) (Below.refl _ _) (fun e => absurd e (by decide)) (fun e => absurd e (by decide)) rfl⟩
    · obtain ⟨hdst, op, dep⟩ := has_at h2 ho hd
      have y := (evo 8 (by omega) (by omega)).trans e8
      exact wp_value (w' := W) (by simp [execOp, op, y, Result.andThen]) ⟨_, put_in hdst (hin 2 (by decide)) u _, mono (by decide) (Below.refl _ _) (fun e => absurd e (by decide)) (fun e => absurd e (by decide)) rfl⟩
    · obtain ⟨hdst, op, dep⟩ := has_at h3 ho hd
      have y1 := (ev 1 (by decide)).trans (hF 1 (by decide) (dep 1 (by simp)))
      have y2 := (ev 2 (by decide)).trans (hF 2 (by decide) (dep 2 (by simp)))
      exact wp_value (w' := W) (by simp [execOp, op, y1, y2, hcut, Result.andThen]) ⟨_, put_in hdst (hin 3 (by decide)) u _, mono (by decide) (Below.refl _ _) (fun e => absurd e (by decide)) (fun e => absurd e (by decide)) rfl⟩
    · obtain ⟨hdst, op, dep⟩ := has_at h4 ho hd
      obtain ⟨g, y0, hgn, hlit⟩ := hF 0 (by decide) (dep 0 (by simp))
      have y1 : (ovr (fun s => s == ls || (decide (s0 ≤ s) && decide (s ≤ s0 + 10))) a0 u).eval (.tmp s0) = .slice (some ⟨g, 0, none⟩) 0 0 := (ev 0 (by decide)).trans y0
      have y2 := (ev 3 (by decide)).trans ((hF 3 (by decide) (dep 3 (by simp))).trans hpv)
      have hlit' : W.heap[g]? = some (.cells #[] 2 (0, 0)) := by
        rcases hlit with e | e
        · rw [hlk] at e; cases e
        · exact e
      obtain ⟨q, c, w', hr, hq, hO, hb⟩ := run_app0I (intsAt_below hT hB) (by omega) hlit' o.type
      have hqn : w.heap.size ≤ q := by
        rcases hq with e | e
        · omega
        · exact Nat.le_trans hB.size e
      exact wp_value (w' := w') (by simp [execOp, op, resolve, invoke, builtin, y1, y2, hr, Result.andThen]) ⟨_, put_in hdst (hin 4 (by decide)) u _, mono (by decide) hb (fun e => absurd e (by decide)) (fun e => absurd e (by decide)) (.inr (hO _ hqn))⟩
    · obtain ⟨hdst, op, dep⟩ := has_at h5 ho hd
      have y := (evo 7 (by omega) (by omega)).trans e7
      exact wp_value (w' := W) (by simp [execOp, op, y, hfa, Result.andThen]) ⟨_, put_in hdst (hin 5 (by decide)) u _, mono (by decide) (Below.refl _ _) (fun e => absurd e (by decide)) (fun e => absurd e (by decide)) rfl⟩
    · obtain ⟨hdst, op, dep⟩ := has_at h6 ho hd
      have y := (ev 5 (by decide)).trans (hF 5 (by decide) (dep 5 (by simp)))
      have n7' := (hB.cell (p := ⟨P7, fd, none⟩) l7).trans n7
      exact wp_value (w' := W) (by simp [execOp, op, y, rq_ld P7 fd W n7', Result.andThen]) ⟨_, put_in hdst (hin 6 (by decide)) u _, mono (by decide) (Below.refl _ _) (fun e => absurd e (by decide)) (fun e => absurd e (by decide)) rfl⟩
    · obtain ⟨hdst, op, dep⟩ := has_at h7 ho hd
      have y := (ev 6 (by decide)).trans (hF 6 (by decide) (dep 6 (by simp)))
      exact wp_value (by simp [execOp, op, y, rq_one, Result.andThen]) ⟨_, put_in hdst (hin 7 (by decide)) u _, mono (by decide) ((Below.refl _ W).alloc (Nat.le_refl _) _) (fun e => absurd e (by decide)) (fun e => absurd e (by decide)) ⟨W.heap.size, rfl, .inr (heap_alloc_new W _)⟩⟩
    · obtain ⟨hdst, op, dep⟩ := has_at h8 ho hd
      have l4 := dep 4 (by simp)
      have l7' := dep 7 (by simp)
      have l10 : l.getD 10 false = false := by
        cases e : l.getD 10 false
        · rfl
        · rw [l108 e] at hlk; cases hlk
      have r4 : W.ownsRow w.heap.size 2 1 (u (s0 + 4)) kk (cellsOf T) := by
        rcases hF 4 (by decide) l4 with e | e
        · rw [hlk] at e; cases e
        · exact e
      obtain ⟨b, y0, hlit⟩ := hF 7 (by decide) l7'
      have hlit' : W.heap[b]? = some (.cells #[.int .i64 x] 2 (0, 0)) := by
        rcases hlit with e | e
        · rw [hlk] at e; cases e
        · exact e
      have y1 := ev 4 (by decide)
      have y2 := (ev 7 (by decide)).trans y0
      obtain ⟨v', w', hr, q2, q3, _, q5⟩ := run_append_own_at (P := Try.prog) W w.heap.size 27 o.type 2 i0 (.int .i64 0) 1 8 Try.underlying27 hi0 hz0 hz1 hz2 rfl (by decide) (u (s0 + 4)) kk (cellsOf T) r4 ⟨b, 0, none⟩ 1 1 [.int .i64 x] rfl (fun j u' hj => by
        match j with
        | 0 =>
          simp at hj
          subst hj
          simp [Addr.add, World.cell?, hlit']
        | j + 1 => simp at hj) (by simp [Value.oneCell']) (by unfold maxLen; omega) (by omega) hB.size
      have hbB : Below w.heap.size w w' := hB.trans (below_ch (ch_grown q3) hB.size (fun k hk => (blk_lt r4 k hk).1))
      refine wp_value (w' := w') (v := v') (by simp [execOp, op, resolve, invoke, builtin, y1, y2, hr, Result.andThen]) ⟨_, put_in hdst (hin 8 (by decide)) u _, .inl ⟨by rw [getD_other l (by omega)]; exact l11, hbB, fun h => (by rw [getD_other l (by omega), l10] at h; cases h), fun _ => set_true l4, by simp [upd, show ¬ ls = s0 + 8 by omega, hul], fun j hj hlj => ?_⟩⟩
      by_cases e : j = 8
      · subst e
        simp only [upd, if_true]
        exact .inr q2
      · have hne : ¬ s0 + j = s0 + 8 := by omega
        simp only [upd, hne, if_false]
        rw [getD_other l (Ne.symm e)] at hlj
        have s8 : (l.setIfInBounds 8 true).getD 8 false = true := listed_ne (by omega)
        have hFj := hF j hj hlj
        rcases (show j = 0 ∨ j = 1 ∨ j = 2 ∨ j = 3 ∨ j = 4 ∨ j = 5 ∨ j = 6 ∨ j = 7 ∨ j = 9 ∨ j = 10 by omega) with rfl | rfl | rfl | rfl | rfl | rfl | rfl | rfl | rfl | rfl
        · obtain ⟨g, f1, f2, f3⟩ := hFj; exact ⟨g, f1, f2, .inl (set_true l4)⟩
        · exact hFj
        · exact hFj
        · exact hFj
        · exact .inl s8
        · exact hFj
        · exact hFj
        · obtain ⟨b', f1, f2⟩ := hFj; exact ⟨b', f1, .inl s8⟩
        · exact hFj
        · rw [l10] at hlj; cases hlj
    · obtain ⟨hdst, op, dep⟩ := has_at h9 ho hd
      have y := (evo rs (by omega) (Ne.symm hlr)).trans er
      exact wp_value (w' := W) (by simp [execOp, op, y, Result.andThen]) ⟨_, put_in hdst (hin 9 (by decide)) u _, mono (by decide) (Below.refl _ _) (fun e => absurd e (by decide)) (fun e => absurd e (by decide)) rfl⟩
    · obtain ⟨hdst, op, dep⟩ := has_at h10 ho hd
      have l8 := dep 8 (by simp)
      have l9 := dep 9 (by simp)
      have r8 : W.ownsRow w.heap.size 2 1 (u (s0 + 8)) (kk + 1) (cellsOf T ++ [.int .i64 x]) := by
        rcases hF 8 (by decide) l8 with e | e
        · rw [hlk] at e; cases e
        · exact e
      have y1 := ev 8 (by decide)
      have y2 := (ev 9 (by decide)).trans ((hF 9 (by decide) l9).trans hrv)
      have hDW := intsAt_below hD hB
      obtain ⟨hDl, _⟩ := ints_len hD
      obtain ⟨v', w', hr, q2, q3, _, q5⟩ := run_append_own_at (P := Try.prog) W w.heap.size 27 o.type 2 i0 (.int .i64 0) 1 8 Try.underlying27 hi0 hz0 hz1 hz2 rfl (by decide) (u (s0 + 8)) (kk + 1) (cellsOf T ++ [.int .i64 x]) r8 ⟨gr, 0, none⟩ m cr (cellsOf D) (by simp [hDl]) (ints_news hDW) (ints_oneCell _ _) (by unfold maxLen; omega) (by omega) hB.size
      have hbB : Below w.heap.size w w' := hB.trans (below_ch (ch_grown q3) hB.size (fun k hk => (blk_lt r8 k hk).1))
      refine wp_value (w' := w') (v := v') (by simp [execOp, op, resolve, invoke, builtin, y1, y2, hr, Result.andThen]) ⟨_, put_in hdst (hin 10 (by decide)) u _, .inl ⟨by rw [getD_other l (by omega)]; exact l11, hbB, fun h => set_true l8, fun _ => set_true (l84 l8), by simp [upd, show ¬ ls = s0 + 10 by omega, hul], fun j hj hlj => ?_⟩⟩
      by_cases e : j = 10
      · subst e
        simp only [upd, if_true]
        exact q2
      · have hne : ¬ s0 + j = s0 + 10 := by omega
        simp only [upd, hne, if_false]
        rw [getD_other l (Ne.symm e)] at hlj
        have hFj := hF j hj hlj
        have s10 : (l.setIfInBounds 10 true).getD 10 false = true := listed_ne (by omega)
        have l4 : (l.setIfInBounds 10 true).getD 8 false = true := set_true l8
        rcases (show j = 0 ∨ j = 1 ∨ j = 2 ∨ j = 3 ∨ j = 4 ∨ j = 5 ∨ j = 6 ∨ j = 7 ∨ j = 8 ∨ j = 9 by omega) with rfl | rfl | rfl | rfl | rfl | rfl | rfl | rfl | rfl | rfl
        · obtain ⟨g, f1, f2, f3⟩ := hFj
          exact ⟨g, f1, f2, .inl (set_true (l84 l8))⟩
        · exact hFj
        · exact hFj
        · exact hFj
        · exact .inl l4
        · exact hFj
        · exact hFj
        · obtain ⟨b', f1, f2⟩ := hFj; exact ⟨b', f1, .inl l4⟩
        · exact .inl s10
        · exact hFj
    · obtain ⟨hdst, op, dep⟩ := has_at h11 ho hd
      have r10 := hF 10 (by decide) (dep 10 (by simp))
      have y := ev 10 (by decide)
      refine wp_value (w' := W) (v := u (s0 + 10)) (by simp [execOp, op, y]) ⟨_, put_in hdst (by simp) u _, .inr ⟨fun j hj => ?_, fin _ W (u (s0 + 10)) (by simp [upd]) r10 hB⟩⟩
      by_cases e : j = 11
      · subst e; exact listed_ne (by omega)
      · rw [getD_other l (Ne.symm e)]
        exact dep j (by rcases (show j = 0 ∨ j = 1 ∨ j = 2 ∨ j = 3 ∨ j = 4 ∨ j = 5 ∨ j = 6 ∨ j = 7 ∨ j = 8 ∨ j = 9 ∨ j = 10 by omega) with rfl | rfl | rfl | rfl | rfl | rfl | rfl | rfl | rfl | rfl | rfl <;> decide)
end Go.Proofs.Ytdogibjgogcdkal.gr
namespace Go.Proofs.Ytdogibjgogcdkal.gr
open Go.RowKit rows heads region
set_option maxRecDepth 100000
set_option linter.unusedVariables false

/-- The Ids, the Hashes at these places. -/
abbrev idsG (os : List Ob) (ps : List Nat) : List Int := ps.map fun p => (os.getD p obD).id
abbrev hshG (os : List Ob) (ps : List Nat) : List Int := ps.map fun p => (os.getD p obD).hash
theorem rs_f0 (b : Nat) (w : World) : (Instr.fieldAt 51 (.pointer (some ⟨b, 0, none⟩)) 0).run Try.prog w = .ok (.pointer (some ⟨b, 0, none⟩)) w := by
  go_simp
theorem rs_f3 (b : Nat) (w : World) : (Instr.fieldAt 51 (.pointer (some ⟨b, 0, none⟩)) 3).run Try.prog w = .ok (.pointer (some ⟨b, 3, none⟩)) w := by
  go_simp
theorem rs_cut {g n c i : Nat} (hi : (i : Int) ≤ n) (hc : (n : Int) ≤ c) (hm : c ≤ 9223372036854775807) (w : World) : (Instr.sliceAt 27 (.slice (some ⟨g, 0, none⟩) n c) none (some (.int .i64 (i : Int))) none).run Try.prog w = .ok (.slice (some ⟨g, 0, none⟩) i c) w := by
  have h2 : (i : Int) ≤ c := by omega
  go_simp

set_option maxHeartbeats 16000000 in
theorem l7Grieving_any {w : World} {o r m : Value} {ms : List MO} {G : Gr} (h : GraphAt w o r m ms G) (hok : gOk G = true) {ps : List Nat} (hz : IsG G ps) :
    Calls Try.prog 39 #[gv o r m G.next G.seed] w fun e w' => ∃ v, e = .returned v ∧ Own w' w.heap.size v (idsG G.objs ps) ∧ Below w.heap.size w w' := by
  obtain ⟨f, hf⟩ : ∃ f : Nat → Bool, ∀ p, f p = true ↔ Grv G p := by
    classical
    exact ⟨fun p => decide (Grv G p), fun p => by simp⟩
  have hps : ps = sortG G.objs f G.objs.length := isG_unique hz (isG_sort hok fun p _ => hf p)
  obtain ⟨a1, n1, c1, a2, n2, c2, a3, n3, c3, e1, e2, e3⟩ := graphAt_slices h
  subst e1 e2 e3
  obtain ⟨ao, co, eo, _⟩ := h.2.1.1
  injection eo with e1 e2 e3
  subst e1 e2 e3
  obtain ⟨ys, hy⟩ := isR_ex G
  have B : Below w.heap.size w (w.alloc (gb (.slice a1 ms.length c1) (.slice a2 n2 c2) (.slice a3 n3 c3) G.next G.seed)) := (Below.refl _ w).alloc (Nat.le_refl _) _
  have T := five_new w 32 (.slice a1 ms.length c1) (.slice a2 n2 c2) (.slice a3 n3 c3) (.int .i64 G.next) (.int .i64 G.seed)
  have L7 := l7Reached_any (graphAt_below h B) hok hy
  have hlen := graphAt_len h
  have hms : ms.length ≤ 200 := by rw [hlen]; exact (gOk_len hok).1
  have hyl : ys.length ≤ 200 := Nat.le_trans (isR_len hy) (gOk_len hok).1
  have HG : Hid _ := h
  have HOK : Hid _ := hok
  have HF : Hid _ := hf
  have HPS : Hid _ := hps
  have HY : Hid _ := hy
  have HB : Hid _ := B
  have HT : Hid _ := T
  have HLEN : Hid _ := hlen
  clear h hok hf hps hy B T hlen hz
  go_enter Try.func39, Try.ntmps39
  go_wp2_with fail
  generalize hX : (w.alloc (gb (.slice a1 ms.length c1) (.slice a2 n2 c2) (.slice a3 n3 c3) G.next G.seed)) = X at *
  clear hX
  refine L7.mono ?_
  rintro e w1 ⟨v1, rfl, O1, b1⟩
  obtain ⟨ra, rc, hrv⟩ : ∃ a c, v1 = .slice a ys.length c := by
    obtain ⟨a, c, e, _⟩ := own_ints O1
    exact ⟨a, c, e⟩
  subst hrv
  have B1 := HB.out.trans (b1.mono HB.out.size)
  have T1 := five_below HT.out b1
  have N2 : Below w1.heap.size w1 ((w1.alloc (.cells #[] 2)).alloc (.cells #[] 2)) := ((Below.refl _ _).alloc (Nat.le_refl _) _).alloc (by simp) _
  have HR2 : Hid _ := own_ints (own_below O1 N2)
  have HB2 : Hid _ := B1.trans (N2.mono B1.size)
  have HT2 : Hid _ := five_below T1 N2
  have HO4 : Hid (Own ((w1.alloc (.cells #[] 2)).alloc (.cells #[] 2)) w.heap.size (.slice (some ⟨w1.heap.size, 0, none⟩) 0 0) []) := ⟨rfl, .inr ⟨w1.heap.size, 0, #[], rfl, B1.size, (Below.heap_alloc _ _ _ (by simp)).trans (heap_alloc_new w1 _), Nat.le_refl _, by decide, rfl, rfl⟩⟩
  have HO5 : Hid (Own ((w1.alloc (.cells #[] 2)).alloc (.cells #[] 2)) w.heap.size (.slice (some ⟨w1.heap.size + 1, 0, none⟩) 0 0) []) := ⟨rfl, .inr ⟨w1.heap.size + 1, 0, #[], rfl, Nat.le_succ_of_le B1.size, at_newS (by simp), Nat.le_refl _, by decide, rfl, rfl⟩⟩
  clear L7 HB HT B1 T1 N2 O1 b1
  go_wp2_with fail
  generalize hX2 : ((w1.alloc (.cells #[] 2)).alloc (.cells #[] 2)) = X2 at *
  clear hX2
  go_loopw [4, 5, 6] (fun v u p wr => ∃ (k : Nat) (g4 c4 g5 c5 : Nat), k ≤ ms.length ∧ p = .int .i64 k ∧ v = .slice (some ⟨g4, 0, none⟩) (sortG G.objs f k).length c4 ∧ u = .slice (some ⟨g5, 0, none⟩) (sortG G.objs f k).length c5 ∧ Own wr w.heap.size (.slice (some ⟨g4, 0, none⟩) (sortG G.objs f k).length c4) (idsG G.objs (sortG G.objs f k)) ∧ Own wr w.heap.size (.slice (some ⟨g5, 0, none⟩) (sortG G.objs f k).length c5) (hshG G.objs (sortG G.objs f k)) ∧ Below X2.heap.size X2 wr) (fun _ _ p _ => ms.length - (intOf p).toNat)
  case atStart => exact ⟨0, _, _, _, _, Nat.zero_le _, rfl, rfl, rfl, HO4.out, HO5.out, Below.refl _ _⟩
  case round =>
    clear HO4 HO5
    obtain ⟨k, g4, c4, g5, c5, hk, rfl, rfl, rfl, hO4, hO5, hB⟩ := hrel
    have HO4 : Hid _ := hO4
    have HO5 : Hid _ := hO5
    have HBX : Hid _ := hB
    obtain ⟨q0, _⟩ := five_cells (five_below HT2.out hB)
    by_cases hlt : k < ms.length
    · obtain ⟨ao, co, eo, _, _, _, hco⟩ := orowAt_below HG.out.2.1.1 (HB2.out.trans (hB.mono HB2.out.size))
      injection eo with e1 e2 e3
      subst e1 e3
      obtain ⟨b1, off1, rfl, hb1, hcc1⟩ := hco (by omega)
      obtain ⟨x0, x1, x2, x3, x4⟩ := hcc1 k hlt
      have hmo : (ms.getD k moD).abs = G.objs.getD k obD := graphAt_get HG.out k
      have hsv := refsAt_below (HG.out.2.1.2 _ (mem_getD hlt)) (HB2.out.trans (hB.mono HB2.out.size))
      obtain ⟨sa, sc, hsl, _⟩ := id hsv
      have hkG : k < G.objs.length := by rw [← HLEN.out]; exact hlt
      have hIdM : ∀ q, q < G.objs.length → ((G.objs.getD q obD).id ∈ ys ↔ Rch G q) := fun q hq => by
        rw [isR_mem HY.out]
        constructor
        · rintro ⟨p, hp, e⟩
          rw [rise_inj (gOk_rise HOK.out) (rch_lt hp) hq e] at hp
          exact hp
        · intro hp; exact ⟨q, hp, rfl⟩
      have HKEY : Hid ((ms.getD k moD).fmt = 2 → 0 < (ms.getD k moD).slots.length) := fun e => by
        have h1 := (right_key HOK.out hkG (by rw [← hmo]; exact e)).1
        rw [← hmo] at h1
        exact h1
      have HIN : Hid ((ms.getD k moD).id ∈ ys ↔ Rch G k) := by
        have := hIdM k hkG
        rw [← hmo] at this
        exact this
      have HFM : Hid ((G.objs.getD k obD).fmt = (ms.getD k moD).fmt) := by show _ = _; rw [← hmo]; rfl
      have HHS : Hid ((G.objs.getD k obD).hash = (ms.getD k moD).hash) := by show _ = _; rw [← hmo]; rfl
      have HID : Hid ((G.objs.getD k obD).id = (ms.getD k moD).id) := by show _ = _; rw [← hmo]; rfl
      have HKX : Hid ((ms.getD k moD).fmt = 2 → ((ms.getD k moD).slots.getD 0 refD).1 = 2 → ∃ q, awt G.objs (G.objs.getD k obD) = some q ∧ (((ms.getD k moD).slots.getD 0 refD).2 ∈ ys ↔ Rch G q)) := fun e1 e2 => by
        have hmm := (right_key HOK.out hkG (by rw [← hmo]; exact e1)).2
        have hl := right_ref HOK.out (.inr ⟨k, hkG, hmm⟩) (by rw [← hmo]; exact e2)
        rw [← hmo] at hl
        refine ⟨ledP G.objs ((ms.getD k moD).slots.getD 0 refD), ?_, ?_⟩
        · unfold awt
          rw [← hmo]
          exact if_pos ⟨e1, hl.1⟩
        · have := hIdM _ (ledP_lt hl.1)
          rw [hl.2] at this
          exact this
      have HKN : Hid (¬ ((ms.getD k moD).slots.getD 0 refD).1 = 2 → awt G.objs (G.objs.getD k obD) = none) := fun e => by
        unfold awt
        rw [if_neg]
        rintro ⟨_, h2⟩
        rw [← hmo] at h2
        exact e (led_two h2)
      clear hmo hco hcc1 hIdM
      generalize ms.getD k moD = mo at *
      obtain ⟨mi, mc, mf, mh, msv, msl⟩ := mo
      simp only at x0 x1 x2 x3 x4 hsl hsv HKEY HIN HFM HHS HID HKX HKN
      subst hsl
      have BY : Below wr.heap.size wr (wr.alloc (ob ⟨mi, mc, mf, mh, .slice sa msl.length sc, msl⟩)) := (Below.refl _ _).alloc (Nat.le_refl _) _
      have TY := five_new wr 51 (.int .i64 mi) (.int .i64 mc) (.int .i64 mf) (.int .i64 mh) (.slice sa msl.length sc)
      obtain ⟨t0, t1, t2, t3, t4, _⟩ := five_cells TY
      have HTY : Hid _ := TY
      have HBY : Hid (Below X2.heap.size X2 (wr.alloc (ob ⟨mi, mc, mf, mh, .slice sa msl.length sc, msl⟩))) := hB.trans (BY.mono hB.size)
      have HRY : Hid _ := intsAt_below HR2.out HBY.out
      have HY4 : Hid _ := own_below hO4 BY
      have HY5 : Hid _ := own_below hO5 BY
      have HNO : Hid (f k = false → sortG G.objs f (k + 1) = sortG G.objs f k) := fun e => by
        show (if f k = true then _ else _) = _
        rw [e]
        rfl
      have HYES : Hid (f k = true → sortG G.objs f (k + 1) = insG G.objs k (sortG G.objs f k)) := fun e => by
        show (if f k = true then _ else _) = _
        rw [if_pos e]
      have hsn := len_sortG G.objs f k
      have HFK : Hid _ := HF.out k
      have HSVY : Hid _ := refsAt_below hsv BY
      clear hO4 hO5 hB hsv BY TY e2 hkG
      obtain ⟨ss, hss⟩ : ∃ ss, sortG G.objs f k = ss := ⟨_, rfl⟩
      rw [hss] at hsn
      simp only [hss] at HO4 HO5 HY4 HY5 HNO HYES ⊢
      have HSS : Hid _ := hss
      clear hss
      have HSKIP : Hid (f k = false → ∃ (k' g4' c4' g5' c5' : Nat), k' ≤ ms.length ∧ Value.int .i64 ((k : Int) + 1) = .int .i64 k' ∧ Value.slice (some ⟨g4, 0, none⟩) ss.length c4 = .slice (some ⟨g4', 0, none⟩) (sortG G.objs f k').length c4' ∧ Value.slice (some ⟨g5, 0, none⟩) ss.length c5 = .slice (some ⟨g5', 0, none⟩) (sortG G.objs f k').length c5' ∧ Own (wr.alloc (ob ⟨mi, mc, mf, mh, .slice sa msl.length sc, msl⟩)) w.heap.size (.slice (some ⟨g4', 0, none⟩) (sortG G.objs f k').length c4') (idsG G.objs (sortG G.objs f k')) ∧ Own (wr.alloc (ob ⟨mi, mc, mf, mh, .slice sa msl.length sc, msl⟩)) w.heap.size (.slice (some ⟨g5', 0, none⟩) (sortG G.objs f k').length c5') (hshG G.objs (sortG G.objs f k')) ∧ Below X2.heap.size X2 (wr.alloc (ob ⟨mi, mc, mf, mh, .slice sa msl.length sc, msl⟩))) := fun e => ⟨k + 1, g4, c4, g5, c5, by omega, by simp, by rw [HNO.out e], by rw [HNO.out e], by rw [HNO.out e]; exact HY4.out, by rw [HNO.out e]; exact HY5.out, HBY.out⟩
      by_cases hf2 : mf = 2
      · subst hf2
        by_cases hi1 : mi ∈ ys
        · have HS1 := l1Has_any HRY.out (by omega) mi
          rw [decide_eq_true hi1] at HS1
          have h0 := HKEY.out rfl
          obtain ⟨a', cap', e, _, _, _, hc⟩ := id HSVY.out
          injection e with e1 e2 e3
          subst e1 e3
          obtain ⟨b0, off0, rfl, hb0, hcc0⟩ := hc h0
          obtain ⟨r0, r1⟩ := hcc0 0 h0
          rw [show off0 + 0 * 2 = off0 by omega] at r0 r1
          clear hc hcc0 e2
          have h1n : (1 : Int) ≤ (msl.length : Int) := by omega
          obtain ⟨e0, he0⟩ : ∃ e0, msl.getD 0 refD = e0 := ⟨_, rfl⟩
          rw [he0] at r0 r1
          rw [he0] at HKX HKN
          obtain ⟨k0, nk0⟩ := e0
          simp only at r0 r1 HKX HKN
          by_cases hk2 : k0 = 2
          · subst hk2
            obtain ⟨qq, haw, hqq⟩ := HKX.out (by trivial) (by trivial)
            have HS2 := l1Has_any HRY.out (by omega) nk0
            by_cases hi2 : nk0 ∈ ys
            · rw [decide_eq_true hi2] at HS2
              have hfk : f k = false := by
                cases e : f k
                · rfl
                · obtain ⟨_, _, q', h1, h2⟩ := HFK.out.1 e
                  rw [haw] at h1
                  injection h1 with h1
                  exact absurd (hqq.1 hi2) (by rw [h1]; exact h2)
              have HX : Hid _ := HSKIP.out hfk
              clear HSKIP HNO HYES HKX HKN HIN hqq haw hfk he0
              go_wp2_with (first | (have hh := HS1; clear hh; go_at_call 62; refine HS1.mono ?_; clear HS1; rintro e w4 ⟨rfl, hw4⟩; rw [hw4]; clear hw4) | (go_at_call 62; refine HS2.mono ?_; clear HS2; rintro e w4 ⟨rfl, hw4⟩; rw [hw4]; clear hw4))
              exact ⟨HX.out, by simp [intOf]; omega⟩
            · rw [decide_eq_false hi2] at HS2
              have hfk : f k = true := HFK.out.2 ⟨HIN.out.1 hi1, HFM.out, qq, haw, fun e => hi2 (hqq.2 e)⟩
              have HX : Hid _ := HYES.out hfk
              clear HSKIP HNO HYES HKX HKN HIN hqq haw hfk he0
              go_wp2_with (first | (have hh := HS1; clear hh; go_at_call 62; refine HS1.mono ?_; clear HS1; rintro e w4 ⟨rfl, hw4⟩; rw [hw4]; clear hw4) | (go_at_call 62; refine HS2.mono ?_; clear HS2; rintro e w4 ⟨rfl, hw4⟩; rw [hw4]; clear hw4))
              generalize hYY : (wr.alloc (ob ⟨mi, mc, 2, mh, .slice (some ⟨b0, off0, none⟩) msl.length sc, msl⟩)) = Y at *
              generalize hP7 : wr.heap.size = P7 at *
              clear hYY t0 t1 t2 t4 q0 x0 x1 x2 x3 x4
              obtain ⟨a5, cp5, e5, hlc5, hcm5, _, hc5⟩ := own_ints HY5.out
              rw [List.length_map] at e5 hlc5
              injection e5 with e51 e52 e53
              subst e51 e53
              obtain ⟨a4, cp4, e4, hlc4, hcm4, _, _⟩ := own_ints HY4.out
              rw [List.length_map] at e4 hlc4
              injection e4 with e41 e42 e43
              subst e41 e43
              have hcm5' : c5 ≤ 9223372036854775807 := hcm5
              have hcm4' : c4 ≤ 9223372036854775807 := hcm4
              have HC5 : Hid _ := hc5
              clear hc5 e52 e42
              go_loopw [8] (fun p wz => ∃ i : Nat, i ≤ ss.length ∧ p = .int .i64 i ∧ (∀ j, j < i → (hshG G.objs ss).getD j 0 ≤ mh) ∧ ∃ q, wz = Y.drewN q) (fun p _ => ss.length - (intOf p).toNat)
              case atStart => exact ⟨0, Nat.zero_le _, rfl, fun j hj => by omega, 0, rfl⟩
              case round =>
                obtain ⟨i, hi, rfl, hall, q, hwz⟩ := hrel
                subst hwz
                by_cases hgo : i < ss.length ∧ (hshG G.objs ss).getD i 0 ≤ mh
                · obtain ⟨hil, hle⟩ := hgo
                  obtain ⟨b5, o5, e6, _, hcc5⟩ := HC5.out (by rw [List.length_map]; omega)
                  injection e6 with e6
                  injection e6 with e61 e62
                  subst e61 e62
                  have cc := hcc5 i (by rw [List.length_map]; exact hil)
                  rw [Nat.zero_add] at cc
                  have HV : Hid (∀ j, j < i + 1 → (hshG G.objs ss).getD j 0 ≤ mh) := fun j hj => by
                    by_cases e : j = i
                    · rw [e]; exact hle
                    · exact hall j (by omega)
                  clear hcc5 hall
                  generalize (hshG G.objs ss).getD i 0 = hh at *
                  have hil' : (i : Int) < (ss.length : Int) := by omega
                  go_wp2_with fail
                  go_quiet (fail)
                  go_wp2
                  exact ⟨⟨i + 1, by omega, by go_num, HV, _, rfl⟩, by simp [intOf]; omega⟩
                · by_cases hcase : i < ss.length
                  · have hle : ¬ (hshG G.objs ss).getD i 0 ≤ mh := fun e => hgo ⟨hcase, e⟩
                    obtain ⟨b5, o5, e6, _, hcc5⟩ := HC5.out (by rw [List.length_map]; omega)
                    injection e6 with e6
                    injection e6 with e61 e62
                    subst e61 e62
                    have cc := hcc5 i (by rw [List.length_map]; exact hcase)
                    rw [Nat.zero_add] at cc
                    have HNLE : Hid _ := hle
                    clear hcc5
                    generalize hhx : (hshG G.objs ss).getD i 0 = hh at *
                    have hil' : (i : Int) < (ss.length : Int) := by omega
                    go_wp2_with fail
                    go_quiet (fail)
                    have HP4 : Hid (∀ n o c, (o = i ∧ c = c4 - i ∨ i = ss.length ∧ c4 = i ∧ o = 0 ∧ c = 0) → IntsAt (Y.drewN n) (.slice (some ⟨g4, o, none⟩) (ss.length - i) c) ((idsG G.objs ss).drop i)) := by
                      intro n o c h
                      rcases h with ⟨rfl, rfl⟩ | ⟨h1, h2, rfl, rfl⟩
                      · exact ints_drop (w := Y) (b := g4) (off := 0) (n := ss.length) (cap := c4) (own_ints HY4.out) hi (fun h => by rw [Nat.zero_add]) (fun h => by cases h)
                      · have := ints_drop (w := Y) (b := g4) (off := 0) (n := ss.length) (cap := c4) (k := i) (own_ints HY4.out) hi (a := some ⟨g4, 0, none⟩) (fun h => by omega) (fun h => by cases h)
                        rw [show c4 - i = 0 by omega] at this
                        exact this
                    have HP5 : Hid (∀ W o c, Below Y.heap.size Y W → (o = i ∧ c = c5 - i ∨ i = ss.length ∧ c5 = i ∧ o = 0 ∧ c = 0) → IntsAt W (.slice (some ⟨g5, o, none⟩) (ss.length - i) c) ((hshG G.objs ss).drop i)) := by
                      intro W o c hW h
                      refine intsAt_below ?_ hW
                      rcases h with ⟨rfl, rfl⟩ | ⟨h1, h2, rfl, rfl⟩
                      · exact ints_drop (w := Y) (b := g5) (off := 0) (n := ss.length) (cap := c5) (own_ints HY5.out) hi (fun h => by rw [Nat.zero_add]) (fun h => by cases h)
                      · have := ints_drop (w := Y) (b := g5) (off := 0) (n := ss.length) (cap := c5) (k := i) (own_ints HY5.out) hi (a := some ⟨g5, 0, none⟩) (fun h => by omega) (fun h => by cases h)
                        rw [show c5 - i = 0 by omega] at this
                        exact this
                    have HQ4 : Hid (∀ n, IntsAt (Y.drewN n) (.slice (if c4 = i then (some ⟨g4, 0, none⟩ : Option Addr) else some ⟨g4, i, none⟩) (ss.length - i) (c4 - i)) ((idsG G.objs ss).drop i)) := fun n => ints_drop (w := Y) (b := g4) (off := 0) (n := ss.length) (cap := c4) (own_ints HY4.out) hi (fun h => by rw [if_neg (by omega), Nat.zero_add]) (fun h => by split at h <;> cases h)
                    have HQ5 : Hid (∀ W, Below Y.heap.size Y W → IntsAt W (.slice (if c5 = i then (some ⟨g5, 0, none⟩ : Option Addr) else some ⟨g5, i, none⟩) (ss.length - i) (c5 - i)) ((hshG G.objs ss).drop i)) := fun W hW => intsAt_below (ints_drop (w := Y) (b := g5) (off := 0) (n := ss.length) (cap := c5) (own_ints HY5.out) hi (fun h => by rw [if_neg (by omega), Nat.zero_add]) (fun h => by split at h <;> cases h)) hW
                    go_wp2_with (first
                      | (refine wpList_copiedN (n := ss.length - i) (xs := (idsG G.objs ss).drop i) ?_ (by omega) rfl (.tmp 69) (.tmp 72) rfl rfl rfl ?_; (first | exact HQ4.out _ | exact HP4.out _ _ _ (Or.inl ⟨rfl, rfl⟩) | exact HP4.out _ _ _ (Or.inr ⟨by omega, by omega, rfl, rfl⟩)); intro ga ca wa hga hOa hBa; (try generalize (if c4 = i then (some ⟨g4, 0, none⟩ : Option Addr) else some ⟨g4, i, none⟩) = z4); have BYa : Below Y.heap.size Y wa := ⟨hBa.os, hBa.tape, hBa.output, hBa.size, hBa.block⟩; have HBYa : Hid _ := BYa; have HRa : Hid (IntsAt wa (.slice (some ⟨ga, 0, none⟩) (ss.length - i) ca) ((idsG G.objs ss).drop i)) := own_ints (own_row hOa (by simp)); clear hOa hBa hga BYa)
                      | (refine wpList_copiedN (n := ss.length - i) (xs := (hshG G.objs ss).drop i) ?_ (by omega) rfl (.tmp 74) (.tmp 77) rfl rfl rfl ?_; (first | exact HQ5.out _ HBYa.out | exact HP5.out _ _ _ HBYa.out (Or.inl ⟨rfl, rfl⟩) | exact HP5.out _ _ _ HBYa.out (Or.inr ⟨by omega, by omega, rfl, rfl⟩)); intro gb' cb wb hgb hOb hBb; (try generalize (if c5 = i then (some ⟨g5, 0, none⟩ : Option Addr) else some ⟨g5, i, none⟩) = z5); have HBYb : Hid (Below Y.heap.size Y wb) := HBYa.out.trans (hBb.mono HBYa.out.size); have HRa2 : Hid _ := intsAt_below HRa.out hBb; have HRb : Hid (IntsAt wb (.slice (some ⟨gb', 0, none⟩) (ss.length - i) cb) ((hshG G.objs ss).drop i)) := own_ints (own_row hOb (by simp)); clear hOb hBb hgb))
                    clear HQ4 HQ5 HP4 HP5
                    have TYb := five_below HTY.out HBYb.out
                    have l7 := lt_of_block TYb
                    have f0 := (five_cells TYb).1
                    have szb : w.heap.size ≤ wb.heap.size := Nat.le_trans HB2.out.size (Nat.le_trans HBY.out.size HBYb.out.size)
                    have hT4 := intsAt_below (ints_take (own_ints HY4.out) hi) HBYb.out
                    go_cut [4] from 15 to 100 (fun v wx => ∃ g c : Nat, v = .slice (some ⟨g, 0, none⟩) (ss.length + 1) c ∧ Hid (Own wx w.heap.size (.slice (some ⟨g, 0, none⟩) (ss.length + 1) c) ((idsG G.objs ss).take i ++ mi :: (idsG G.objs ss).drop i)) ∧ Hid (Below wb.heap.size wb wx))
                    case first =>
                      refine regPut (s0 := 79) (ls := 4) (rs := 9) (P7 := P7) (fd := 0) (kk := i) (m := ss.length - i) (x := mi) (T := (idsG G.objs ss).take i) (D := (idsG G.objs ss).drop i) (lv := .slice (some ⟨g4, 0, none⟩) ss.length c4) (pv := .slice (some ⟨g4, 0, none⟩) i c4) (rv := .slice (some ⟨ga, 0, none⟩) (ss.length - i) ca) (a := some ⟨g4, 0, none⟩) (cap := c4) (gr := ga) (cr := ca) (by simp) ?_ rfl ⟨_, rfl, rfl, rfl, by simp [Region.binds]⟩ ⟨_, rfl, rfl, rfl, by simp [Region.binds]⟩ ⟨_, rfl, rfl, rfl, by simp [Region.binds]⟩ ⟨_, rfl, rfl, rfl, by simp [Region.binds]⟩ ⟨_, rfl, rfl, rfl, by simp [Region.binds]⟩ ⟨_, rfl, rfl, rfl, by simp [Region.binds]⟩ ⟨_, rfl, rfl, rfl, by simp [Region.binds]⟩ ⟨_, rfl, rfl, rfl, by simp [Region.binds]⟩ ⟨_, rfl, rfl, rfl, by simp [Region.binds]⟩ ⟨_, rfl, rfl, rfl, by simp [Region.binds]⟩ ⟨_, rfl, rfl, rfl, by simp [Region.binds]⟩ ⟨_, rfl, rfl, rfl, by simp [Region.binds]⟩ (by decide) (by decide) (by decide) (by decide) (by decide) (by decide) (by simp) rfl rfl rfl rfl (rs_cut (by omega) (by omega) (by omega)) (rs_f0 P7) l7 f0 rfl hT4 rfl HRa2.out (by omega) (by omega) ?_
                      · intro k' o' ho' e' he'
                        have hk' : k' < 12 := (Array.getElem?_eq_some_iff.1 ho').1
                        rcases (show k' = 0 ∨ k' = 1 ∨ k' = 2 ∨ k' = 3 ∨ k' = 4 ∨ k' = 5 ∨ k' = 6 ∨ k' = 7 ∨ k' = 8 ∨ k' = 9 ∨ k' = 10 ∨ k' = 11 by omega) with rfl | rfl | rfl | rfl | rfl | rfl | rfl | rfl | rfl | rfl | rfl | rfl
                        all_goals
                          injection ho' with ho'
                          subst ho'
                          simp at he'
                          try omega
                        all_goals
                          first
                            | (subst he'; decide)
                            | (rcases he' with rfl | rfl <;> decide)
                            | (rcases he' with rfl | rfl | rfl <;> decide)
                            | (rcases he' with rfl | rfl | rfl | rfl <;> decide)
                            | (rcases he' with rfl | rfl | rfl | rfl | rfl <;> decide)
                            | (rcases he' with rfl | rfl | rfl | rfl | rfl | rfl <;> decide)
                            | (rcases he' with rfl | rfl | rfl | rfl | rfl | rfl | rfl <;> decide)
                            | (rcases he' with rfl | rfl | rfl | rfl | rfl | rfl | rfl | rfl <;> decide)
                            | (rcases he' with rfl | rfl | rfl | rfl | rfl | rfl | rfl | rfl | rfl <;> decide)
                            | (rcases he' with rfl | rfl | rfl | rfl | rfl | rfl | rfl | rfl | rfl | rfl <;> decide)
                            | (rcases he' with rfl | rfl | rfl | rfl | rfl | rfl | rfl | rfl | rfl | rfl | rfl <;> decide)
                            | (rcases he' with rfl | rfl | rfl | rfl | rfl | rfl | rfl | rfl | rfl | rfl | rfl | rfl <;> decide)
                            | (rcases he' with rfl | rfl | rfl | rfl | rfl | rfl | rfl | rfl | rfl | rfl | rfl | rfl | rfl <;> decide)
                            | (rcases he' with rfl | rfl | rfl | rfl | rfl | rfl | rfl | rfl | rfl | rfl | rfl | rfl | rfl | rfl <;> decide)
                            | (rcases he' with rfl | rfl | rfl | rfl | rfl | rfl | rfl | rfl | rfl | rfl | rfl | rfl | rfl | rfl | rfl <;> decide)
                            | (rcases he' with rfl | rfl | rfl | rfl | rfl | rfl | rfl | rfl | rfl | rfl | rfl | rfl | rfl | rfl | rfl | rfl <;> decide)
                            | (rcases he' with rfl | rfl | rfl | rfl | rfl | rfl | rfl | rfl | rfl | rfl | rfl | rfl | rfl | rfl | rfl | rfl | rfl <;> decide)
                      · rintro u w' v hu hrow hb
                        obtain ⟨gq, cq, hv⟩ : ∃ g c, v = .slice (some ⟨g, 0, none⟩) (ss.length + 1) c := by
                          obtain ⟨_, ⟨_, q0⟩ | ⟨g, c', cur, q1, _⟩⟩ := id hrow
                          · omega
                          · exact ⟨g, c', by rw [q1]; congr 1; omega⟩
                        subst hv
                        have ow := own_put (R := (idsG G.objs ss).take i ++ mi :: (idsG G.objs ss).drop i) rfl (by simp; omega) (row_base hrow szb)
                        rename_i J K' HJ HK
                        exact HK _ _ (Met.intro (HJ _ _ ⟨u 4, _, _, _, _, _, _, _, _, _, _, _, _, _, _, _, _, _, _, _, _, _, _, _, _, _, _, _, _, _, _, _, _, _, _, _, _, _, _, _, _, _, _, _, _, _, _, _, _, _, _, _, _, _, _, _, _, _, _, _, _, _, _, _, _, _, _, _, _, _, _, _, _, _, _, _, _, _, _, _, _, _, _, _, _, _, _, ⟨gq, cq, hu, ow, hb⟩, rfl⟩))
                    obtain ⟨g6, c6, rfl, HO6, HB6⟩ := hcut
                    obtain ⟨wd, hwd⟩ : ∃ wd, wd = wc := ⟨_, rfl⟩
                    subst hwd
                    have BYd := HBYb.out.trans (HB6.out.mono HBYb.out.size)
                    have TYd := five_below HTY.out BYd
                    have l7 := lt_of_block TYd
                    have f3 := (five_cells TYd).2.2.2.1
                    have szd : w.heap.size ≤ wd.heap.size := Nat.le_trans szb HB6.out.size
                    have hT5 := intsAt_below (ints_take (own_ints HY5.out) hi) BYd
                    have hD5 := intsAt_below HRb.out HB6.out
                    have HBXd : Hid (Below X2.heap.size X2 wd) := HBY.out.trans (BYd.mono HBY.out.size)
                    clear f0
                    go_wp2_with fail
                    refine regPut (s0 := 90) (ls := 5) (rs := 10) (P7 := P7) (fd := 3) (kk := i) (m := ss.length - i) (x := mh) (T := (hshG G.objs ss).take i) (D := (hshG G.objs ss).drop i) (lv := .slice (some ⟨g5, 0, none⟩) ss.length c5) (pv := .slice (some ⟨g5, 0, none⟩) i c5) (rv := .slice (some ⟨gb', 0, none⟩) (ss.length - i) cb) (a := some ⟨g5, 0, none⟩) (cap := c5) (gr := gb') (cr := cb) (by simp) ?_ rfl ⟨_, rfl, rfl, rfl, by simp [Region.binds]⟩ ⟨_, rfl, rfl, rfl, by simp [Region.binds]⟩ ⟨_, rfl, rfl, rfl, by simp [Region.binds]⟩ ⟨_, rfl, rfl, rfl, by simp [Region.binds]⟩ ⟨_, rfl, rfl, rfl, by simp [Region.binds]⟩ ⟨_, rfl, rfl, rfl, by simp [Region.binds]⟩ ⟨_, rfl, rfl, rfl, by simp [Region.binds]⟩ ⟨_, rfl, rfl, rfl, by simp [Region.binds]⟩ ⟨_, rfl, rfl, rfl, by simp [Region.binds]⟩ ⟨_, rfl, rfl, rfl, by simp [Region.binds]⟩ ⟨_, rfl, rfl, rfl, by simp [Region.binds]⟩ ⟨_, rfl, rfl, rfl, by simp [Region.binds]⟩ (by decide) (by decide) (by decide) (by decide) (by decide) (by decide) (by simp) rfl rfl rfl rfl (rs_cut (by omega) (by omega) (by omega)) (rs_f3 P7) l7 f3 rfl hT5 rfl hD5 (by omega) (by omega) ?_
                    · intro k' o' ho' e' he'
                      have hk' : k' < 12 := (Array.getElem?_eq_some_iff.1 ho').1
                      rcases (show k' = 0 ∨ k' = 1 ∨ k' = 2 ∨ k' = 3 ∨ k' = 4 ∨ k' = 5 ∨ k' = 6 ∨ k' = 7 ∨ k' = 8 ∨ k' = 9 ∨ k' = 10 ∨ k' = 11 by omega) with rfl | rfl | rfl | rfl | rfl | rfl | rfl | rfl | rfl | rfl | rfl | rfl
                      all_goals
                        injection ho' with ho'
                        subst ho'
                        simp at he'
                        try omega
                      all_goals
                        first
                          | (subst he'; decide)
                          | (rcases he' with rfl | rfl <;> decide)
                          | (rcases he' with rfl | rfl | rfl <;> decide)
                          | (rcases he' with rfl | rfl | rfl | rfl <;> decide)
                          | (rcases he' with rfl | rfl | rfl | rfl | rfl <;> decide)
                          | (rcases he' with rfl | rfl | rfl | rfl | rfl | rfl <;> decide)
                          | (rcases he' with rfl | rfl | rfl | rfl | rfl | rfl | rfl <;> decide)
                          | (rcases he' with rfl | rfl | rfl | rfl | rfl | rfl | rfl | rfl <;> decide)
                          | (rcases he' with rfl | rfl | rfl | rfl | rfl | rfl | rfl | rfl | rfl <;> decide)
                          | (rcases he' with rfl | rfl | rfl | rfl | rfl | rfl | rfl | rfl | rfl | rfl <;> decide)
                          | (rcases he' with rfl | rfl | rfl | rfl | rfl | rfl | rfl | rfl | rfl | rfl | rfl <;> decide)
                          | (rcases he' with rfl | rfl | rfl | rfl | rfl | rfl | rfl | rfl | rfl | rfl | rfl | rfl <;> decide)
                          | (rcases he' with rfl | rfl | rfl | rfl | rfl | rfl | rfl | rfl | rfl | rfl | rfl | rfl | rfl <;> decide)
                          | (rcases he' with rfl | rfl | rfl | rfl | rfl | rfl | rfl | rfl | rfl | rfl | rfl | rfl | rfl | rfl <;> decide)
                          | (rcases he' with rfl | rfl | rfl | rfl | rfl | rfl | rfl | rfl | rfl | rfl | rfl | rfl | rfl | rfl | rfl <;> decide)
                          | (rcases he' with rfl | rfl | rfl | rfl | rfl | rfl | rfl | rfl | rfl | rfl | rfl | rfl | rfl | rfl | rfl | rfl <;> decide)
                          | (rcases he' with rfl | rfl | rfl | rfl | rfl | rfl | rfl | rfl | rfl | rfl | rfl | rfl | rfl | rfl | rfl | rfl | rfl <;> decide)
                    rintro u w' v hu hrow hb
                    obtain ⟨gq, cq, hv⟩ : ∃ g c, v = .slice (some ⟨g, 0, none⟩) (ss.length + 1) c := by
                      obtain ⟨_, ⟨_, q0⟩ | ⟨g, c', cur, q1, _⟩⟩ := id hrow
                      · omega
                      · exact ⟨g, c', by rw [q1]; congr 1; omega⟩
                    subst hv
                    have ow := own_put (R := (hshG G.objs ss).take i ++ mh :: (hshG G.objs ss).drop i) rfl (by simp; omega) (row_base hrow szd)
                    have HB7 : Hid _ := hb
                    have HO7 : Hid _ := ow
                    clear ow hb hrow
                    simp [ovr, List.range, List.range.loop, hu]
                    have hins := insG_at (os := G.objs) (p := k) hi (fun j hj => by
                          have := hall j hj
                          rw [HHS.out]
                          have e : (hshG G.objs ss).getD j 0 = (G.objs.getD (ss.getD j 0) obD).hash := by
                            rw [List.getD_eq_getElem?_getD, List.getElem?_map, List.getElem?_eq_getElem (show j < ss.length by omega), List.getD_eq_getElem?_getD (l := ss), List.getElem?_eq_getElem (show j < ss.length by omega)]
                            rfl
                          rw [← e]
                          exact this) (fun hjl => by
                          rw [HHS.out]
                          have e : (hshG G.objs ss).getD i 0 = (G.objs.getD (ss.getD i 0) obD).hash := by
                            rw [List.getD_eq_getElem?_getD, List.getElem?_map, List.getElem?_eq_getElem hjl, List.getD_eq_getElem?_getD (l := ss), List.getElem?_eq_getElem hjl]
                            rfl
                          rw [← e]
                          exact (by rw [hhx]; exact HNLE.out))
                    have HST : Hid (∃ (k' g4' c4' g5' c5' : Nat), k' ≤ ms.length ∧ Value.int .i64 ((k : Int) + 1) = .int .i64 k' ∧ Value.slice (some ⟨g6, 0, none⟩) (ss.length + 1) c6 = .slice (some ⟨g4', 0, none⟩) (sortG G.objs f k').length c4' ∧ Value.slice (some ⟨gq, 0, none⟩) (ss.length + 1) cq = .slice (some ⟨g5', 0, none⟩) (sortG G.objs f k').length c5' ∧ Own w' w.heap.size (.slice (some ⟨g4', 0, none⟩) (sortG G.objs f k').length c4') (idsG G.objs (sortG G.objs f k')) ∧ Own w' w.heap.size (.slice (some ⟨g5', 0, none⟩) (sortG G.objs f k').length c5') (hshG G.objs (sortG G.objs f k')) ∧ Below X2.heap.size X2 w') := by
                      have e1 : idsG G.objs (sortG G.objs f (k + 1)) = (idsG G.objs ss).take i ++ mi :: (idsG G.objs ss).drop i := by rw [HX.out, hins, ← HID.out]; simp [idsG]
                      have e2 : hshG G.objs (sortG G.objs f (k + 1)) = (hshG G.objs ss).take i ++ mh :: (hshG G.objs ss).drop i := by rw [HX.out, hins, ← HHS.out]; simp [hshG]
                      have e3 : (sortG G.objs f (k + 1)).length = ss.length + 1 := by rw [HX.out, len_insG]
                      exact ⟨k + 1, g6, c6, gq, cq, by omega, by simp, by rw [e3], by rw [e3], by rw [e3, e1]; exact own_below HO6.out HB7.out, by rw [e3, e2]; exact HO7.out, HBXd.out.trans (HB7.out.mono HBXd.out.size)⟩
                    clear hins
                    go_wp2
                    exact ⟨HST.out, by simp [intOf]; omega⟩
                  · have hdl : decide ((i : Int) < (ss.length : Int)) = false := by rw [decide_eq_false_iff_not]; omega
                    have hnl : ¬ (i : Int) < (ss.length : Int) := by omega
                    go_wp2_with fail
                    go_quiet (fail)
                    have HP4 : Hid (∀ n o c, (o = i ∧ c = c4 - i ∨ i = ss.length ∧ c4 = i ∧ o = 0 ∧ c = 0) → IntsAt (Y.drewN n) (.slice (some ⟨g4, o, none⟩) (ss.length - i) c) ((idsG G.objs ss).drop i)) := by
                      intro n o c h
                      rcases h with ⟨rfl, rfl⟩ | ⟨h1, h2, rfl, rfl⟩
                      · exact ints_drop (w := Y) (b := g4) (off := 0) (n := ss.length) (cap := c4) (own_ints HY4.out) hi (fun h => by rw [Nat.zero_add]) (fun h => by cases h)
                      · have := ints_drop (w := Y) (b := g4) (off := 0) (n := ss.length) (cap := c4) (k := i) (own_ints HY4.out) hi (a := some ⟨g4, 0, none⟩) (fun h => by omega) (fun h => by cases h)
                        rw [show c4 - i = 0 by omega] at this
                        exact this
                    have HP5 : Hid (∀ W o c, Below Y.heap.size Y W → (o = i ∧ c = c5 - i ∨ i = ss.length ∧ c5 = i ∧ o = 0 ∧ c = 0) → IntsAt W (.slice (some ⟨g5, o, none⟩) (ss.length - i) c) ((hshG G.objs ss).drop i)) := by
                      intro W o c hW h
                      refine intsAt_below ?_ hW
                      rcases h with ⟨rfl, rfl⟩ | ⟨h1, h2, rfl, rfl⟩
                      · exact ints_drop (w := Y) (b := g5) (off := 0) (n := ss.length) (cap := c5) (own_ints HY5.out) hi (fun h => by rw [Nat.zero_add]) (fun h => by cases h)
                      · have := ints_drop (w := Y) (b := g5) (off := 0) (n := ss.length) (cap := c5) (k := i) (own_ints HY5.out) hi (a := some ⟨g5, 0, none⟩) (fun h => by omega) (fun h => by cases h)
                        rw [show c5 - i = 0 by omega] at this
                        exact this
                    have HQ4 : Hid (∀ n, IntsAt (Y.drewN n) (.slice (if c4 = i then (some ⟨g4, 0, none⟩ : Option Addr) else some ⟨g4, i, none⟩) (ss.length - i) (c4 - i)) ((idsG G.objs ss).drop i)) := fun n => ints_drop (w := Y) (b := g4) (off := 0) (n := ss.length) (cap := c4) (own_ints HY4.out) hi (fun h => by rw [if_neg (by omega), Nat.zero_add]) (fun h => by split at h <;> cases h)
                    have HQ5 : Hid (∀ W, Below Y.heap.size Y W → IntsAt W (.slice (if c5 = i then (some ⟨g5, 0, none⟩ : Option Addr) else some ⟨g5, i, none⟩) (ss.length - i) (c5 - i)) ((hshG G.objs ss).drop i)) := fun W hW => intsAt_below (ints_drop (w := Y) (b := g5) (off := 0) (n := ss.length) (cap := c5) (own_ints HY5.out) hi (fun h => by rw [if_neg (by omega), Nat.zero_add]) (fun h => by split at h <;> cases h)) hW
                    go_wp2_with (first
                      | (refine wpList_copiedN (n := ss.length - i) (xs := (idsG G.objs ss).drop i) ?_ (by omega) rfl (.tmp 69) (.tmp 72) rfl rfl rfl ?_; (first | exact HQ4.out _ | exact HP4.out _ _ _ (Or.inl ⟨rfl, rfl⟩) | exact HP4.out _ _ _ (Or.inr ⟨by omega, by omega, rfl, rfl⟩)); intro ga ca wa hga hOa hBa; (try generalize (if c4 = i then (some ⟨g4, 0, none⟩ : Option Addr) else some ⟨g4, i, none⟩) = z4); have BYa : Below Y.heap.size Y wa := ⟨hBa.os, hBa.tape, hBa.output, hBa.size, hBa.block⟩; have HBYa : Hid _ := BYa; have HRa : Hid (IntsAt wa (.slice (some ⟨ga, 0, none⟩) (ss.length - i) ca) ((idsG G.objs ss).drop i)) := own_ints (own_row hOa (by simp)); clear hOa hBa hga BYa)
                      | (refine wpList_copiedN (n := ss.length - i) (xs := (hshG G.objs ss).drop i) ?_ (by omega) rfl (.tmp 74) (.tmp 77) rfl rfl rfl ?_; (first | exact HQ5.out _ HBYa.out | exact HP5.out _ _ _ HBYa.out (Or.inl ⟨rfl, rfl⟩) | exact HP5.out _ _ _ HBYa.out (Or.inr ⟨by omega, by omega, rfl, rfl⟩)); intro gb' cb wb hgb hOb hBb; (try generalize (if c5 = i then (some ⟨g5, 0, none⟩ : Option Addr) else some ⟨g5, i, none⟩) = z5); have HBYb : Hid (Below Y.heap.size Y wb) := HBYa.out.trans (hBb.mono HBYa.out.size); have HRa2 : Hid _ := intsAt_below HRa.out hBb; have HRb : Hid (IntsAt wb (.slice (some ⟨gb', 0, none⟩) (ss.length - i) cb) ((hshG G.objs ss).drop i)) := own_ints (own_row hOb (by simp)); clear hOb hBb hgb))
                    clear HQ4 HQ5 HP4 HP5
                    have TYb := five_below HTY.out HBYb.out
                    have l7 := lt_of_block TYb
                    have f0 := (five_cells TYb).1
                    have szb : w.heap.size ≤ wb.heap.size := Nat.le_trans HB2.out.size (Nat.le_trans HBY.out.size HBYb.out.size)
                    have hT4 := intsAt_below (ints_take (own_ints HY4.out) hi) HBYb.out
                    go_cut [4] from 15 to 100 (fun v wx => ∃ g c : Nat, v = .slice (some ⟨g, 0, none⟩) (ss.length + 1) c ∧ Hid (Own wx w.heap.size (.slice (some ⟨g, 0, none⟩) (ss.length + 1) c) ((idsG G.objs ss).take i ++ mi :: (idsG G.objs ss).drop i)) ∧ Hid (Below wb.heap.size wb wx))
                    case first =>
                      refine regPut (s0 := 79) (ls := 4) (rs := 9) (P7 := P7) (fd := 0) (kk := i) (m := ss.length - i) (x := mi) (T := (idsG G.objs ss).take i) (D := (idsG G.objs ss).drop i) (lv := .slice (some ⟨g4, 0, none⟩) ss.length c4) (pv := .slice (some ⟨g4, 0, none⟩) i c4) (rv := .slice (some ⟨ga, 0, none⟩) (ss.length - i) ca) (a := some ⟨g4, 0, none⟩) (cap := c4) (gr := ga) (cr := ca) (by simp) ?_ rfl ⟨_, rfl, rfl, rfl, by simp [Region.binds]⟩ ⟨_, rfl, rfl, rfl, by simp [Region.binds]⟩ ⟨_, rfl, rfl, rfl, by simp [Region.binds]⟩ ⟨_, rfl, rfl, rfl, by simp [Region.binds]⟩ ⟨_, rfl, rfl, rfl, by simp [Region.binds]⟩ ⟨_, rfl, rfl, rfl, by simp [Region.binds]⟩ ⟨_, rfl, rfl, rfl, by simp [Region.binds]⟩ ⟨_, rfl, rfl, rfl, by simp [Region.binds]⟩ ⟨_, rfl, rfl, rfl, by simp [Region.binds]⟩ ⟨_, rfl, rfl, rfl, by simp [Region.binds]⟩ ⟨_, rfl, rfl, rfl, by simp [Region.binds]⟩ ⟨_, rfl, rfl, rfl, by simp [Region.binds]⟩ (by decide) (by decide) (by decide) (by decide) (by decide) (by decide) (by simp) rfl rfl rfl rfl (rs_cut (by omega) (by omega) (by omega)) (rs_f0 P7) l7 f0 rfl hT4 rfl HRa2.out (by omega) (by omega) ?_
                      · intro k' o' ho' e' he'
                        have hk' : k' < 12 := (Array.getElem?_eq_some_iff.1 ho').1
                        rcases (show k' = 0 ∨ k' = 1 ∨ k' = 2 ∨ k' = 3 ∨ k' = 4 ∨ k' = 5 ∨ k' = 6 ∨ k' = 7 ∨ k' = 8 ∨ k' = 9 ∨ k' = 10 ∨ k' = 11 by omega) with rfl | rfl | rfl | rfl | rfl | rfl | rfl | rfl | rfl | rfl | rfl | rfl
                        all_goals
                          injection ho' with ho'
                          subst ho'
                          simp at he'
                          try omega
                        all_goals
                          first
                            | (subst he'; decide)
                            | (rcases he' with rfl | rfl <;> decide)
                            | (rcases he' with rfl | rfl | rfl <;> decide)
                            | (rcases he' with rfl | rfl | rfl | rfl <;> decide)
                            | (rcases he' with rfl | rfl | rfl | rfl | rfl <;> decide)
                            | (rcases he' with rfl | rfl | rfl | rfl | rfl | rfl <;> decide)
                            | (rcases he' with rfl | rfl | rfl | rfl | rfl | rfl | rfl <;> decide)
                            | (rcases he' with rfl | rfl | rfl | rfl | rfl | rfl | rfl | rfl <;> decide)
                            | (rcases he' with rfl | rfl | rfl | rfl | rfl | rfl | rfl | rfl | rfl <;> decide)
                            | (rcases he' with rfl | rfl | rfl | rfl | rfl | rfl | rfl | rfl | rfl | rfl <;> decide)
                            | (rcases he' with rfl | rfl | rfl | rfl | rfl | rfl | rfl | rfl | rfl | rfl | rfl <;> decide)
                            | (rcases he' with rfl | rfl | rfl | rfl | rfl | rfl | rfl | rfl | rfl | rfl | rfl | rfl <;> decide)
                            | (rcases he' with rfl | rfl | rfl | rfl | rfl | rfl | rfl | rfl | rfl | rfl | rfl | rfl | rfl <;> decide)
                            | (rcases he' with rfl | rfl | rfl | rfl | rfl | rfl | rfl | rfl | rfl | rfl | rfl | rfl | rfl | rfl <;> decide)
                            | (rcases he' with rfl | rfl | rfl | rfl | rfl | rfl | rfl | rfl | rfl | rfl | rfl | rfl | rfl | rfl | rfl <;> decide)
                            | (rcases he' with rfl | rfl | rfl | rfl | rfl | rfl | rfl | rfl | rfl | rfl | rfl | rfl | rfl | rfl | rfl | rfl <;> decide)
                            | (rcases he' with rfl | rfl | rfl | rfl | rfl | rfl | rfl | rfl | rfl | rfl | rfl | rfl | rfl | rfl | rfl | rfl | rfl <;> decide)
                      · rintro u w' v hu hrow hb
                        obtain ⟨gq, cq, hv⟩ : ∃ g c, v = .slice (some ⟨g, 0, none⟩) (ss.length + 1) c := by
                          obtain ⟨_, ⟨_, q0⟩ | ⟨g, c', cur, q1, _⟩⟩ := id hrow
                          · omega
                          · exact ⟨g, c', by rw [q1]; congr 1; omega⟩
                        subst hv
                        have ow := own_put (R := (idsG G.objs ss).take i ++ mi :: (idsG G.objs ss).drop i) rfl (by simp; omega) (row_base hrow szb)
                        rename_i J K' HJ HK
                        exact HK _ _ (Met.intro (HJ _ _ ⟨u 4, _, _, _, _, _, _, _, _, _, _, _, _, _, _, _, _, _, _, _, _, _, _, _, _, _, _, _, _, _, _, _, _, _, _, _, _, _, _, _, _, _, _, _, _, _, _, _, _, _, _, _, _, _, _, _, _, _, _, _, _, _, _, _, _, _, _, _, _, _, _, _, _, _, _, _, _, _, _, _, _, _, _, _, _, _, _, ⟨gq, cq, hu, ow, hb⟩, rfl⟩))
                    obtain ⟨g6, c6, rfl, HO6, HB6⟩ := hcut
                    obtain ⟨wd, hwd⟩ : ∃ wd, wd = wc := ⟨_, rfl⟩
                    subst hwd
                    have BYd := HBYb.out.trans (HB6.out.mono HBYb.out.size)
                    have TYd := five_below HTY.out BYd
                    have l7 := lt_of_block TYd
                    have f3 := (five_cells TYd).2.2.2.1
                    have szd : w.heap.size ≤ wd.heap.size := Nat.le_trans szb HB6.out.size
                    have hT5 := intsAt_below (ints_take (own_ints HY5.out) hi) BYd
                    have hD5 := intsAt_below HRb.out HB6.out
                    have HBXd : Hid (Below X2.heap.size X2 wd) := HBY.out.trans (BYd.mono HBY.out.size)
                    clear f0
                    go_wp2_with fail
                    refine regPut (s0 := 90) (ls := 5) (rs := 10) (P7 := P7) (fd := 3) (kk := i) (m := ss.length - i) (x := mh) (T := (hshG G.objs ss).take i) (D := (hshG G.objs ss).drop i) (lv := .slice (some ⟨g5, 0, none⟩) ss.length c5) (pv := .slice (some ⟨g5, 0, none⟩) i c5) (rv := .slice (some ⟨gb', 0, none⟩) (ss.length - i) cb) (a := some ⟨g5, 0, none⟩) (cap := c5) (gr := gb') (cr := cb) (by simp) ?_ rfl ⟨_, rfl, rfl, rfl, by simp [Region.binds]⟩ ⟨_, rfl, rfl, rfl, by simp [Region.binds]⟩ ⟨_, rfl, rfl, rfl, by simp [Region.binds]⟩ ⟨_, rfl, rfl, rfl, by simp [Region.binds]⟩ ⟨_, rfl, rfl, rfl, by simp [Region.binds]⟩ ⟨_, rfl, rfl, rfl, by simp [Region.binds]⟩ ⟨_, rfl, rfl, rfl, by simp [Region.binds]⟩ ⟨_, rfl, rfl, rfl, by simp [Region.binds]⟩ ⟨_, rfl, rfl, rfl, by simp [Region.binds]⟩ ⟨_, rfl, rfl, rfl, by simp [Region.binds]⟩ ⟨_, rfl, rfl, rfl, by simp [Region.binds]⟩ ⟨_, rfl, rfl, rfl, by simp [Region.binds]⟩ (by decide) (by decide) (by decide) (by decide) (by decide) (by decide) (by simp) rfl rfl rfl rfl (rs_cut (by omega) (by omega) (by omega)) (rs_f3 P7) l7 f3 rfl hT5 rfl hD5 (by omega) (by omega) ?_
                    · intro k' o' ho' e' he'
                      have hk' : k' < 12 := (Array.getElem?_eq_some_iff.1 ho').1
                      rcases (show k' = 0 ∨ k' = 1 ∨ k' = 2 ∨ k' = 3 ∨ k' = 4 ∨ k' = 5 ∨ k' = 6 ∨ k' = 7 ∨ k' = 8 ∨ k' = 9 ∨ k' = 10 ∨ k' = 11 by omega) with rfl | rfl | rfl | rfl | rfl | rfl | rfl | rfl | rfl | rfl | rfl | rfl
                      all_goals
                        injection ho' with ho'
                        subst ho'
                        simp at he'
                        try omega
                      all_goals
                        first
                          | (subst he'; decide)
                          | (rcases he' with rfl | rfl <;> decide)
                          | (rcases he' with rfl | rfl | rfl <;> decide)
                          | (rcases he' with rfl | rfl | rfl | rfl <;> decide)
                          | (rcases he' with rfl | rfl | rfl | rfl | rfl <;> decide)
                          | (rcases he' with rfl | rfl | rfl | rfl | rfl | rfl <;> decide)
                          | (rcases he' with rfl | rfl | rfl | rfl | rfl | rfl | rfl <;> decide)
                          | (rcases he' with rfl | rfl | rfl | rfl | rfl | rfl | rfl | rfl <;> decide)
                          | (rcases he' with rfl | rfl | rfl | rfl | rfl | rfl | rfl | rfl | rfl <;> decide)
                          | (rcases he' with rfl | rfl | rfl | rfl | rfl | rfl | rfl | rfl | rfl | rfl <;> decide)
                          | (rcases he' with rfl | rfl | rfl | rfl | rfl | rfl | rfl | rfl | rfl | rfl | rfl <;> decide)
                          | (rcases he' with rfl | rfl | rfl | rfl | rfl | rfl | rfl | rfl | rfl | rfl | rfl | rfl <;> decide)
                          | (rcases he' with rfl | rfl | rfl | rfl | rfl | rfl | rfl | rfl | rfl | rfl | rfl | rfl | rfl <;> decide)
                          | (rcases he' with rfl | rfl | rfl | rfl | rfl | rfl | rfl | rfl | rfl | rfl | rfl | rfl | rfl | rfl <;> decide)
                          | (rcases he' with rfl | rfl | rfl | rfl | rfl | rfl | rfl | rfl | rfl | rfl | rfl | rfl | rfl | rfl | rfl <;> decide)
                          | (rcases he' with rfl | rfl | rfl | rfl | rfl | rfl | rfl | rfl | rfl | rfl | rfl | rfl | rfl | rfl | rfl | rfl <;> decide)
                          | (rcases he' with rfl | rfl | rfl | rfl | rfl | rfl | rfl | rfl | rfl | rfl | rfl | rfl | rfl | rfl | rfl | rfl | rfl <;> decide)
                    rintro u w' v hu hrow hb
                    obtain ⟨gq, cq, hv⟩ : ∃ g c, v = .slice (some ⟨g, 0, none⟩) (ss.length + 1) c := by
                      obtain ⟨_, ⟨_, q0⟩ | ⟨g, c', cur, q1, _⟩⟩ := id hrow
                      · omega
                      · exact ⟨g, c', by rw [q1]; congr 1; omega⟩
                    subst hv
                    have ow := own_put (R := (hshG G.objs ss).take i ++ mh :: (hshG G.objs ss).drop i) rfl (by simp; omega) (row_base hrow szd)
                    have HB7 : Hid _ := hb
                    have HO7 : Hid _ := ow
                    clear ow hb hrow
                    simp [ovr, List.range, List.range.loop, hu]
                    have hins := insG_at (os := G.objs) (p := k) hi (fun j hj => by
                          have := hall j hj
                          rw [HHS.out]
                          have e : (hshG G.objs ss).getD j 0 = (G.objs.getD (ss.getD j 0) obD).hash := by
                            rw [List.getD_eq_getElem?_getD, List.getElem?_map, List.getElem?_eq_getElem (show j < ss.length by omega), List.getD_eq_getElem?_getD (l := ss), List.getElem?_eq_getElem (show j < ss.length by omega)]
                            rfl
                          rw [← e]
                          exact this) (fun h => absurd h (by omega))
                    have HST : Hid (∃ (k' g4' c4' g5' c5' : Nat), k' ≤ ms.length ∧ Value.int .i64 ((k : Int) + 1) = .int .i64 k' ∧ Value.slice (some ⟨g6, 0, none⟩) (ss.length + 1) c6 = .slice (some ⟨g4', 0, none⟩) (sortG G.objs f k').length c4' ∧ Value.slice (some ⟨gq, 0, none⟩) (ss.length + 1) cq = .slice (some ⟨g5', 0, none⟩) (sortG G.objs f k').length c5' ∧ Own w' w.heap.size (.slice (some ⟨g4', 0, none⟩) (sortG G.objs f k').length c4') (idsG G.objs (sortG G.objs f k')) ∧ Own w' w.heap.size (.slice (some ⟨g5', 0, none⟩) (sortG G.objs f k').length c5') (hshG G.objs (sortG G.objs f k')) ∧ Below X2.heap.size X2 w') := by
                      have e1 : idsG G.objs (sortG G.objs f (k + 1)) = (idsG G.objs ss).take i ++ mi :: (idsG G.objs ss).drop i := by rw [HX.out, hins, ← HID.out]; simp [idsG]
                      have e2 : hshG G.objs (sortG G.objs f (k + 1)) = (hshG G.objs ss).take i ++ mh :: (hshG G.objs ss).drop i := by rw [HX.out, hins, ← HHS.out]; simp [hshG]
                      have e3 : (sortG G.objs f (k + 1)).length = ss.length + 1 := by rw [HX.out, len_insG]
                      exact ⟨k + 1, g6, c6, gq, cq, by omega, by simp, by rw [e3], by rw [e3], by rw [e3, e1]; exact own_below HO6.out HB7.out, by rw [e3, e2]; exact HO7.out, HBXd.out.trans (HB7.out.mono HBXd.out.size)⟩
                    clear hins
                    go_wp2
                    exact ⟨HST.out, by simp [intOf]; omega⟩
          · have hk2' : (k0 != 2) = true := by simpa using hk2
            have hfk : f k = false := by
              cases e : f k
              · rfl
              · obtain ⟨_, _, q', h1, h2⟩ := HFK.out.1 e
                rw [HKN.out hk2] at h1
                cases h1
            have HX : Hid _ := HSKIP.out hfk
            clear HSKIP HNO HYES HKX HKN HIN hfk he0 hk2
            go_wp2_with (go_at_call 62; refine HS1.mono ?_; clear HS1; rintro e w4 ⟨rfl, hw4⟩; rw [hw4]; clear hw4)
            exact ⟨HX.out, by simp [intOf]; omega⟩
        · have HS1 := l1Has_any HRY.out (by omega) mi
          rw [decide_eq_false hi1] at HS1
          have hfk : f k = false := by
            cases e : f k
            · rfl
            · exact absurd (HIN.out.2 (HFK.out.1 e).1) hi1
          have HX : Hid _ := HSKIP.out hfk
          clear HSKIP HNO HYES HKX HKN HIN hfk
          go_wp2_with (go_at_call 62; refine HS1.mono ?_; clear HS1; rintro e w4 ⟨rfl, hw4⟩; rw [hw4]; clear hw4)
          exact ⟨HX.out, by simp [intOf]; omega⟩
      · have hf2' : (mf != 2) = true := by simpa using hf2
        have hfk : f k = false := by
          cases e : f k
          · rfl
          · have := (HFK.out.1 e).2.1
            rw [HFM.out] at this
            exact absurd this hf2
        have HX : Hid _ := HSKIP.out hfk
        clear HSKIP HNO HYES HKX HKN HIN hfk hf2
        go_wp2
        exact ⟨HX.out, by simp [intOf]; omega⟩
    · have e : k = ms.length := by omega
      subst e
      have hfin : Own wr w.heap.size (.slice (some ⟨g4, 0, none⟩) (sortG G.objs f ms.length).length c4) (idsG G.objs ps) := by
        have := HO4.out
        rw [HPS.out, ← HLEN.out]
        exact this
      have HFO : Hid _ := hfin
      have HFB : Hid (Below w.heap.size w wr) := HB2.out.trans (hB.mono HB2.out.size)
      clear hO4 hO5 hB hfin
      generalize (sortG G.objs f ms.length).length = nn at *
      go_wp2
      go_ret
      exact ⟨_, rfl, HFO.out, HFB.out⟩
end Go.Proofs.Ytdogibjgogcdkal.gr
namespace Go.Proofs.Ytdogibjgogcdkal.gr
open Go.RowKit rows heads
set_option maxRecDepth 100000
set_option linter.unusedVariables false

theorem ownI_cell {w : World} {base : Nat} {a : Option Addr} {n c : Nat} {xs : List Int} (h : Own w base (.slice a n c) xs) {i : Nat} (hi : i < xs.length) : ∃ g, a = some ⟨g, 0, none⟩ ∧ w.cell? ⟨g, i, none⟩ = some (.int .i64 (xs.getD i 0)) ∧ g < w.heap.size := by
  have h' := h
  obtain ⟨h0, ⟨h1, h2⟩ | ⟨g, cap, cur, h1, hg, hh, _⟩⟩ := h
  · omega
  · injection h1 with e1 e2 e3
    subst e1 e2 e3
    have := World.ownsRow.cellAt h' i (by omega)
    refine ⟨g, rfl, ?_, lt_of_block hh⟩
    rw [this]
    simp [List.getD_eq_getElem?_getD, List.getElem?_eq_getElem hi]
theorem atI_own {G : Gr} (h : Right G) {p : Nat} (hp : p < G.objs.length) : atI G.objs (G.objs.getD p obD).id = p :=
  atI_at hp rfl fun m hm e => absurd (rise_inj (gOk_rise h.gOk) (show m < G.objs.length by omega) hp e) (by omega)

set_option maxHeartbeats 8000000 in
theorem l7Mourn_any {base P : Nat} {R : Gr} {w : World} {G : Gr} (H : Held w base P G) (hr : Right G) (hM : Mourns G R) :
    Calls Try.prog 42 #[.pointer (some ⟨P, 0, none⟩)] w fun e w' => e = .returned (.tuple #[]) ∧ Held w' base P R ∧ Below base w w' := by
  have hbase := held_base H
  have H0 : Hid (∃ Gk, Held w base P Gk ∧ Right Gk ∧ Mourns Gk R ∧ Below base w w) := ⟨G, H, hr, hM, (Below.refl _ w).mono hbase⟩
  clear H hr hM
  go_enter Try.func42, Try.ntmps42
  go_wp2_with fail
  go_loopw [2] (fun v wr => ∃ v0, v0 = v ∧ ∃ Gk, Held wr base P Gk ∧ Right Gk ∧ Mourns Gk R ∧ Below base w wr) (fun _ wr => ephW wr P)
  case atStart => exact ⟨_, rfl, H0.out⟩
  case round =>
    obtain ⟨v0, hv0, Gk, hH, hR, hMk, hBk⟩ := hrel
    clear hv0
    obtain ⟨wr0, hwr0⟩ : ∃ x, x = wr := ⟨_, rfl⟩
    have HH : Hid _ := hH
    have hszr := held_base hH
    obtain ⟨o, r, m, ms, T, O, N, hb'⟩ := hH
    obtain ⟨a1, n1, c1, a2, n2, c2, a3, n3, c3, e1, e2, e3⟩ := graphAt_slices (ownG_at O)
    subst e1 e2 e3
    obtain ⟨ps, his⟩ := isG_ex hR.gOk
    have GP := l7Grieving_any (ownG_at O) hR.gOk his
    obtain ⟨z0, z1, z2, z3, z4, _⟩ := five_cells T
    have HR : Hid _ := hR
    have HM : Hid _ := hMk
    have HB : Hid _ := hBk
    clear T O N hb' hR hMk hBk H0
    go_wp2_with fail
    refine GP.mono ?_
    rintro e w3 ⟨v3, rfl, o3, b3⟩
    obtain ⟨pa, pc, hv3⟩ := ownT_slice (t := 2) o3
    rw [List.length_map] at hv3
    subst hv3
    have HH3 : Hid (HeldA w3 base P Gk (blk (.slice pa ps.length pc))) := heldA_new HH.out b3 fun k hk => (blk_lt o3 k hk).1
    have HB3 : Hid (Below base w w3) := HB.out.trans (b3.mono hszr)
    have HO3 : Hid (OwnT 2 w3 wr0.heap.size (.slice pa ps.length pc) (idsG Gk.objs ps)) := by rw [hwr0]; exact o3
    clear hwr0
    have HIS : Hid _ := his
    have hps := isG_len HR.out.gOk his
    have HEP : Hid (ephW _ P = eph Gk.objs) := ephW_held HH.out
    clear GP z0 z1 z2 z3 z4 o3 b3 his HB HH
    by_cases hn : ps = []
    · subst hn
      have e : R = Gk := mourns_unique HM.out ⟨[], HIS.out, rfl⟩
      subst e
      have hl : ([] : List Nat).length = 0 := rfl
      clear HIS HM HO3
      go_wp2
      first
        | exact bodyPost_ret (results_none rfl _ _ _) rfl ⟨rfl, HH3.out.held, HB3.out⟩
        | (go_ret; exact ⟨rfl, HH3.out.held, HB3.out⟩)
    · have HM2 : Hid _ := mourns_next HM.out HIS.out hn
      have hpos : ¬ (ps.length : Int) = 0 := by
        have := List.length_pos_iff.2 hn
        omega
      clear HM
      go_wp2_with fail
      have HPM : Hid (∀ p ∈ ps, p < Gk.objs.length) := fun p hp => grv_lt ((HIS.out.2 p).1 hp)
      go_loopw [3] (fun p wz => ∃ k : Nat, k ≤ ps.length ∧ p = .int .i64 k ∧ HeldA wz base P (mournR Gk (ps.take k)) (blk (.slice pa ps.length pc)) ∧ OwnT 2 wz wr0.heap.size (.slice pa ps.length pc) (idsG Gk.objs ps) ∧ Below base w wz) (fun p _ => ps.length - (intOf p).toNat)
      case atStart => exact ⟨0, Nat.zero_le _, rfl, HH3.out, HO3.out, HB3.out⟩
      case round =>
        obtain ⟨k, hk, rfl, hA, hO, hBz⟩ := hrel
        by_cases hkl : k < ps.length
        · obtain ⟨g, rfl, zc, lg⟩ := ownI_cell hO (i := k) (by rw [List.length_map]; exact hkl)
          have hpin := HPM.out (ps.getD k 0) (by rw [List.getD_eq_getElem?_getD, List.getElem?_eq_getElem hkl]; exact List.getElem_mem hkl)
          have hid0 : (idsG Gk.objs ps).getD k 0 = ((mournR Gk (ps.take k)).objs.getD (ps.getD k 0) obD).id := by
            rw [id_of_map (mournR_ids (ps.take k) Gk), List.getD_eq_getElem?_getD, List.getElem?_map, List.getElem?_eq_getElem hkl, List.getD_eq_getElem?_getD (l := ps), List.getElem?_eq_getElem hkl]
            rfl
          rw [hid0] at zc
          have HSN : Hid _ := mournR_snoc Gk hkl
          have hl0 := mournR_len (ps.take k) Gk
          have hr0 : Right (mournR Gk (ps.take k)) := right_mournR HR.out fun q hq => HPM.out q (List.mem_of_mem_take hq)
          generalize mournR Gk (ps.take k) = Gq at *
          generalize ps.getD k 0 = pp at *
          rw [← hl0] at hpin
          have hat := atI_own hr0 hpin
          have h200 := (gOk_len hr0.gOk).1
          obtain ⟨q0, c0, r1, r2, r3, m1, m2, m3, ms', sa, sc, T, O, N, hb, HS, him, _, _, _⟩ := heldA_obj hA hpin
          obtain ⟨z0, z1, z2, z3, z4, _⟩ := five_cells T
          have hml := own_len O
          have L6 := l6At_any (w := wr.drew) (show GraphAt wr.drew _ _ _ _ _ from ownG_at O) (show ms'.length ≤ 1048576 by omega) (Gq.objs.getD pp obD).id
          rw [hat] at L6
          generalize hid1 : (Gq.objs.getD pp obD).id = id0 at *
          have HID : Hid _ := hid1
          clear hid1
          have HALL : Hid (∀ w4, w4 = wr.drew.alloc (gb (.slice (some ⟨q0, 0, none⟩) Gq.objs.length c0) (.slice r1 r2 r3) (.slice m1 m2 m3) Gq.next Gq.seed) →
              (w4.cell? ⟨P, 0, none⟩ = some (.slice (some ⟨q0, 0, none⟩) Gq.objs.length c0) ∧ (∃ u, w4.cell? ⟨q0, pp * 5 + 2, none⟩ = some (.int .i64 u)) ∧ w4.frozen? ⟨q0, pp * 5 + 2, none⟩ = false) ∧
              (HeldA (w4.setCell ⟨q0, pp * 5 + 2, none⟩ (.int .i64 0)) base P { Gq with objs := plainAt Gq.objs pp } (blk (.slice (some ⟨g, 0, none⟩) ps.length pc)) ∧ OwnT 2 (w4.setCell ⟨q0, pp * 5 + 2, none⟩ (.int .i64 0)) wr0.heap.size (.slice (some ⟨g, 0, none⟩) ps.length pc) (idsG Gk.objs ps) ∧ Below base w (w4.setCell ⟨q0, pp * 5 + 2, none⟩ (.int .i64 0)) ∧ (w4.setCell ⟨q0, pp * 5 + 2, none⟩ (.int .i64 0)).cell? ⟨g, k, none⟩ = some (.int .i64 id0))) := by
            rintro w4 hw4
            have b4 : Below wr.heap.size wr w4 := by rw [hw4]; exact (Below.refl wr.heap.size wr).drew.alloc (show wr.heap.size ≤ wr.drew.heap.size from Nat.le_refl _) _
            have z0' := (b4.cell (p := ⟨P, 0, none⟩) (cell_lt z0)).trans z0
            have zc' := (b4.cell (p := ⟨g, k, none⟩) (cell_lt zc)).trans zc
            have hA4 := heldA_ch hA b4
            have hO4 : OwnT 2 w4 wr0.heap.size (.slice (some ⟨g, 0, none⟩) ps.length pc) (idsG Gk.objs ps) := row_below hO b4
            obtain ⟨zu, fz, nP, nS, HA1, B1⟩ := heldA_plainQ hA4 hpin z0'
            have C1 := one_ch w4 q0 (pp * 5 + 2) (.int .i64 0)
            refine ⟨⟨z0', zu, fz⟩, HA1, row_ch hO4 C1 (fun x hx e => nS ((List.mem_singleton.1 e) ▸ hx)), (hBz.trans (b4.mono (Nat.le_trans hbase hBz.size))).trans B1, ch_cellR C1 (fun e => nS ((List.mem_singleton.1 e) ▸ (by simp [blk_some]))) zc'⟩
          have hkl' : (k : Int) < (ps.length : Int) := by omega
          have hpp' : pp < Gq.objs.length := hpin
          clear hA hO hBz hl0 hr0 HO3 HB3 HH3 T O N HS him hb hml hat
          go_wp2_with fail
          go_region_law (go_simp; go_at_call 79; refine L6.mono ?_; clear L6; rintro e w4 ⟨rfl, hw4⟩; obtain ⟨⟨y0, ⟨u, y1⟩, y2⟩, yy⟩ := HALL.out w4 hw4; have HY : Hid _ := yy; clear yy hw4 HALL)
          all_goals
            generalize hW1 : w4.setCell ⟨q0, pp * 5 + 2, none⟩ (.int .i64 0) = W1 at *
            clear hW1 z0 z1 z2 z3 z4 zc y0 y1 y2
            obtain ⟨HA1, hO1, hB1, zc1⟩ := HY.out
            obtain ⟨q1, c1', r1', r2', r3', m1', m2', m3', ms2, sa2, sc2, T, O, N, hb, HS, _, _, _, _⟩ := heldA_obj HA1 (i := pp) (by rw [plain_len]; exact hpin)
            have em : m2' = Gq.mourned.length := by
              obtain ⟨_, ⟨h1, h2⟩ | ⟨g', cap', cur, h1, _⟩⟩ := O.2.2.2.1
              · injection h1 with _ h3 _
                have h2' : Gq.mourned.length = 0 := h2
                omega
              · injection h1
            obtain ⟨_, _, t2, _, _, _⟩ := five_cells T
            have HO1 : Hid _ := hO1
            have HB1 : Hid _ := hB1
            have HT : Hid _ := T
            have HO : Hid _ := O
            have HN : Hid _ := N
            have HHS : Hid _ := HS
            have HHA : Hid _ := HA1
            have HBB : Hid _ := hb
            subst em
            clear HY hO1 hB1 T O N HS HA1 hb
            by_cases h40 : Gq.mourned.length < 40
            · have h40' : (Gq.mourned.length : Int) < 40 := by omega
              go_wp2_with fail
              have BX1 : Below W1.heap.size W1 (W1.alloc (rb (2, id0))) := (Below.refl _ _).alloc (Nat.le_refl _) _
              have BX3 := BX1.drew
              have p2' := (BX1.cell (p := ⟨P, 2, none⟩) (cell_lt t2)).trans t2
              have zc1' := (BX1.cell (p := ⟨g, k, none⟩) (cell_lt zc1)).trans zc1
              have hb1 : base ≤ W1.heap.size := Nat.le_trans hbase HB1.out.size
              have HNW : Hid (∀ i u, (cellsR [((2, id0) : Rf)])[i]? = some u → (W1.alloc (rb (2, id0))).drew.cell? ((⟨W1.heap.size, 0, none⟩ : Addr).add i) = some u) := World.news_of_block (heap_alloc_new W1 (rb (2, id0)))
              have HON : Hid (∀ u ∈ cellsR [((2, id0) : Rf)], u.oneCell' = true) := cellsR_one _
              have T5 := five_below HT.out BX3
              have O5 := ownG_below (G := { Gq with objs := plainAt Gq.objs pp }) (o := .slice (some ⟨q1, 0, none⟩) (plainAt Gq.objs pp).length c1') (r := .slice r1' r2' r3') (m := .slice m1' Gq.mourned.length m3') (ms := ms2) (base := base) HO.out BX3
              have HROW : Hid (_) := O5.2.2.2.1
              have HAPP : Hid (∀ (v' : Value) (w10 : World), w10.ownsRow base 80 2 v' (Gq.mourned.length + 1) (cellsR Gq.mourned ++ cellsR [((2, id0) : Rf)]) → (W1.alloc (rb (2, id0))).drew.grownBy w10 (Value.slice m1' Gq.mourned.length m3').ownBlock → (v'.ownBlock = (Value.slice m1' Gq.mourned.length m3').ownBlock ∨ v'.ownBlock = some (W1.alloc (rb (2, id0))).drew.heap.size) → w10.cell? ⟨P, 2, none⟩ = some (.slice m1' Gq.mourned.length m3') ∧ w10.frozen? ⟨P, 2, none⟩ = false ∧ HeldA (w10.setCell ⟨P, 2, none⟩ v') base P (mournR Gk (ps.take (k + 1))) (blk (.slice (some ⟨g, 0, none⟩) ps.length pc)) ∧ OwnT 2 (w10.setCell ⟨P, 2, none⟩ v') wr0.heap.size (.slice (some ⟨g, 0, none⟩) ps.length pc) (idsG Gk.objs ps) ∧ Below base w (w10.setCell ⟨P, 2, none⟩ v')) := fun v' w10 h1 h2 h3 => by
                obtain ⟨k1, k2, k3, _, k5⟩ := heldA_mourn (G := { Gq with objs := plainAt Gq.objs pp }) T5 O5 HN.out HBB.out HHS.out (fun x hx => Nat.lt_of_lt_of_le (blk_lt HO1.out x hx).2 BX3.size) (2, id0) h1 h2 h3
                refine ⟨k1, k2, ?_, row_ch (row_ch (row_below HO1.out BX3) (ch_grown h2) (fun x hx e => (HHS.out x hx).2 (by simp only [gblk, List.mem_append]; exact .inr e))) (one_ch w10 P 2 v') (fun x hx e => (HHS.out x hx).1 (List.mem_singleton.1 e)), HB1.out.trans ((BX3.mono hb1).trans k5)⟩
                rw [HSN.out]
                unfold mourn1
                rw [if_pos h40, HID.out]
                exact k3
              have hbX3 : base ≤ (W1.alloc (rb (2, id0))).drew.heap.size := Nat.le_trans hb1 BX3.size
              obtain ⟨i0, hi, hz0, hz1, hz2⟩ := info_parts infoR
              have HI : Hid _ := And.intro hi (And.intro hz0 (And.intro hz1 hz2))
              clear hi hz0 hz1 hz2 T5 O5 BX1 BX3
              go_region_law (refine step_append_own_at rfl (.tmp 41) (.tmp 47) 30 rfl base 80 i0 (.agg #[.int .i64 0, .int .i64 0]) 2 16 Try.underlying30 HI.out.1 HI.out.2.1 HI.out.2.2.1 HI.out.2.2.2 rfl (by decide) (.slice m1' Gq.mourned.length m3') Gq.mourned.length (cellsR Gq.mourned) rfl HROW.out ⟨W1.heap.size, 0, none⟩ 1 1 (cellsR [((2, id0) : Rf)]) rfl rfl HNW.out HON.out (by unfold maxLen; omega) (by omega) hbX3 ?_; intro v' w10 hrow hg hat; obtain ⟨gg, cc, rfl⟩ := rowR_form hrow (by omega); obtain ⟨pp0, pf, hh⟩ := HAPP.out _ w10 hrow hg hat; have HDF : Hid _ := hh; clear hrow hg hat hh)
              all_goals
                go_wp2
                first
                  | exact ⟨⟨k + 1, by omega, by simp, HDF.out.1, HDF.out.2.1, HDF.out.2.2⟩, by simp [intOf]; omega⟩
                  | exact ⟨⟨_, _, _, ⟨k + 1, by omega, by simp, HDF.out.1, HDF.out.2.1, HDF.out.2.2⟩, rfl, rfl, rfl⟩, by simp [intOf]; omega⟩
            · have h40' : ¬ (Gq.mourned.length : Int) < 40 := by omega
              have HNX : Hid (HeldA W1 base P (mournR Gk (ps.take (k + 1))) (blk (.slice (some ⟨g, 0, none⟩) ps.length pc))) := by
                show HeldA _ _ _ _ _
                rw [HSN.out]
                unfold mourn1
                rw [if_neg h40]
                exact HHA.out
              go_wp2
              exact ⟨⟨k + 1, by omega, by simp, HNX.out, HO1.out, HB1.out⟩, by simp [intOf]; omega⟩
        · have e : k = ps.length := by omega
          subst e
          rw [List.take_length] at hA
          have HX : Hid _ := hA.held
          have HBX : Hid _ := hBz
          have HRX : Hid _ := right_mournR HR.out HPM.out
          clear hA hBz hO
          go_wp2
          exact ⟨⟨_, rfl, _, HX.out, HRX.out, HM2.out, HBX.out⟩, by rw [ephW_held HX.out, HEP.out]; exact eph_round HIS.out hn⟩
end Go.Proofs.Ytdogibjgogcdkal.gr
namespace Go.Proofs.Ytdogibjgogcdkal.gr
open Go.RowKit rows heads
set_option maxRecDepth 100000

set_option maxHeartbeats 8000000 in
theorem sMourning_any {w : World} {o r m : Value} {ms : List MO} {G R : Gr} (h : GraphAt w o r m ms G) (hs : gSize ms G ≤ 1048576) (hR : gOk G = true → Mourns G R) (h0 : gOk G = false → R = gr0) :
    Calls Try.prog 19 #[gv o r m G.next G.seed] w fun e w' => ∃ o' r' m' rs, e = .returned (gv o' r' m' R.next R.seed) ∧ OwnG w' w.heap.size o' r' m' rs R ∧ Below w.heap.size w w' := by
  obtain ⟨a1, n1, c1, a2, n2, c2, a3, n3, c3, e1, e2, e3⟩ := graphAt_slices h
  subst e1 e2 e3
  generalize hn0 : w.heap.size = n0 at *
  have B0 : Below n0 w ((w.alloc (gb (.slice a1 n1 c1) (.slice a2 n2 c2) (.slice a3 n3 c3) G.next G.seed)).alloc (gb (.slice none 0 0) (.slice none 0 0) (.slice none 0 0) 0 0)) := (((Below.refl _ w).alloc (by first | omega | (simp; omega)) _).alloc (by first | omega | (simp; omega)) _)
  have TP : Five ((w.alloc (gb (.slice a1 n1 c1) (.slice a2 n2 c2) (.slice a3 n3 c3) G.next G.seed)).alloc (gb (.slice none 0 0) (.slice none 0 0) (.slice none 0 0) 0 0)) n0 32 (.slice a1 n1 c1) (.slice a2 n2 c2) (.slice a3 n3 c3) (.int .i64 G.next) (.int .i64 G.seed) := by
    rw [← hn0]
    exact heap_push (heap_alloc_new _ _)
  have TR : Five ((w.alloc (gb (.slice a1 n1 c1) (.slice a2 n2 c2) (.slice a3 n3 c3) G.next G.seed)).alloc (gb (.slice none 0 0) (.slice none 0 0) (.slice none 0 0) 0 0)) (n0 + 1) 32 (.slice none 0 0) (.slice none 0 0) (.slice none 0 0) (.int .i64 0) (.int .i64 0) := by
    rw [show n0 + 1 = (w.alloc (gb (.slice a1 n1 c1) (.slice a2 n2 c2) (.slice a3 n3 c3) G.next G.seed)).heap.size by simp; omega]
    exact heap_alloc_new _ _
  have hX : n0 + 2 ≤ ((w.alloc (gb (.slice a1 n1 c1) (.slice a2 n2 c2) (.slice a3 n3 c3) G.next G.seed)).alloc (gb (.slice none 0 0) (.slice none 0 0) (.slice none 0 0) 0 0)).heap.size := by simp; omega
  have HG : Hid (∀ {X : World}, Below n0 w X → GraphAt X (.slice a1 n1 c1) (.slice a2 n2 c2) (.slice a3 n3 c3) ms G) := fun {X} hb => graphAt_below h (by rw [hn0]; exact hb)
  have GO := sGraphOk_any (HG.out B0) hs
  have HC : Hid (gOk G = true → ∀ (base P : Nat) (W : World), Held W base P G → Calls Try.prog 42 #[.pointer (some ⟨P, 0, none⟩)] W fun e w' => e = .returned (.tuple #[]) ∧ Held w' base P R ∧ Below base W w') := fun ok base P W hH => l7Mourn_any hH (right_of ok) (hR ok)
  have HE : Hid _ := h0
  clear h hR h0
  go_enter Try.func19, Try.ntmps19
  go_wp2_with fail
  generalize ((w.alloc (gb (.slice a1 n1 c1) (.slice a2 n2 c2) (.slice a3 n3 c3) G.next G.seed)).alloc (gb (.slice none 0 0) (.slice none 0 0) (.slice none 0 0) 0 0)) = X at *
  refine GO.mono ?_
  rintro e w1 ⟨rfl, b1⟩
  have B1 := B0.trans (b1.mono (by omega))
  have TP1 := five_below TP b1
  have TR1 := five_below TR b1
  have s1 : n0 + 2 ≤ w1.heap.size := Nat.le_trans hX b1.size
  clear GO TP TR B0 b1 hX
  obtain ⟨v0, v1, v2, v3, v4, vf⟩ := five_cells TR1
  have g0 := vf 0
  have g1 := vf 1
  have g2 := vf 2
  have g3 := vf 3
  have g4 := vf 4
  cases ok : gOk G
  · have ERG := HE.out ok
    subst ERG
    clear HE
    have HTX : Hid _ := five_sets TR1 (.slice none 0 0) (.slice none 0 0) (.slice none 0 0) (.int .i64 0) (.int .i64 0)
    have HBX : Hid _ := five_belows B1 (show n0 ≤ n0 + 1 by omega) (.slice none 0 0) (.slice none 0 0) (.slice none 0 0) (.int .i64 0) (.int .i64 0)
    clear HC HG TP1 TR1 B1 vf
    go_wp2
    exact bodyPost_ret (res_gr rfl rfl HTX.out) rfl ⟨_, _, _, [], rfl, ownG_zero _ _, HBX.out⟩
  · clear HE
    have CG := l6Copy_any (HG.out B1) hs
    obtain ⟨z0, z1, z2, z3, z4, _⟩ := five_cells TP1
    have HC1 : Hid _ := HC.out ok
    have HTR1 : Hid _ := TR1
    have HB1 : Hid _ := B1
    clear HC HG TP1 TR1 B1 vf
    go_wp2_with fail
    refine CG.mono ?_
    rintro e w2 ⟨o', r', m', ns, rfl, OG, b2⟩
    obtain ⟨a1', n1', c1', a2', n2', c2', a3', n3', c3', e1, e2, e3⟩ := graphAt_slices (ownG_at OG)
    subst e1 e2 e3
    clear CG z0 z1 z2 z3 z4 v0 v1 v2 v3 v4 g0 g1 g2 g3 g4
    have s2 := b2.size
    have BA : Below w2.heap.size w2 (w2.alloc (gb (.slice a1' n1' c1') (.slice a2' n2' c2') (.slice a3' n3' c3') G.next G.seed)) := (Below.refl _ w2).alloc (Nat.le_refl _) _
    have HH : Held (w2.alloc (gb (.slice a1' n1' c1') (.slice a2' n2' c2') (.slice a3' n3' c3') G.next G.seed)) w1.heap.size w2.heap.size G :=
      ⟨_, _, _, ns, five_new w2 _ _ _ _ _ _, ownG_below OG BA, fun e => by have := (ownG_lt OG _ e).2; omega, s2⟩
    have B2 := (HB1.out.trans (b2.mono (by omega))).trans (BA.mono (by omega))
    have CL := HC1.out w1.heap.size w2.heap.size _ HH
    have HTR2 : Hid _ := five_below (five_below HTR1.out b2) BA
    have HB2 : Hid _ := B2
    have s3 : w1.heap.size ≤ (w2.alloc (gb (.slice a1' n1' c1') (.slice a2' n2' c2') (.slice a3' n3' c3') G.next G.seed)).heap.size := by simp; omega
    clear OG b2 BA HH B2 HC1 HTR1 HB1
    go_wp2_with (go_at_call 42; refine CL.mono ?_; rintro e w4 ⟨rfl, ⟨o4, r4, m4, rs, T4, O4, N4, _⟩, b4⟩; have HT4 : Hid _ := T4; have HO4 : Hid _ := O4; have HB4 : Hid _ := b4; clear T4 O4 b4 N4 CL; refine Hid.out ?_)
    have O4 := HO4.out
    have T4 := HT4.out
    have B4 := HB2.out.trans (HB4.out.mono (by omega))
    have TR4 : Five w4 (n0 + 1) 32 (.slice none 0 0) (.slice none 0 0) (.slice none 0 0) (.int .i64 0) (.int .i64 0) := (HB4.out.block (n0 + 1) (by omega)).trans HTR2.out
    obtain ⟨a1, n1, c1, a2, n2, c2, a3, n3, c3, e1, e2, e3⟩ := graphAt_slices (ownG_at O4)
    subst e1 e2 e3
    obtain ⟨z0, z1, z2, z3, z4, _⟩ := five_cells T4
    obtain ⟨v0, v1, v2, v3, v4, vf⟩ := five_cells TR4
    have g0 := vf 0
    have g1 := vf 1
    have g2 := vf 2
    have g3 := vf 3
    have g4 := vf 4
    have HOW : Hid _ := ownG_base (ownG_ch O4 (five_other (X := w4) (b := n0 + 1) (.slice a1 n1 c1) (.slice a2 n2 c2) (.slice a3 n3 c3) (.int .i64 R.next) (.int .i64 R.seed)) (fun x hx e => by have := (ownG_lt O4 x hx).1; rw [List.mem_singleton] at e; omega)) (show n0 ≤ w1.heap.size by omega)
    have HTX : Hid _ := five_sets TR4 (.slice a1 n1 c1) (.slice a2 n2 c2) (.slice a3 n3 c3) (.int .i64 R.next) (.int .i64 R.seed)
    have HBX : Hid _ := five_belows B4 (show n0 ≤ n0 + 1 by omega) (.slice a1 n1 c1) (.slice a2 n2 c2) (.slice a3 n3 c3) (.int .i64 R.next) (.int .i64 R.seed)
    clear vf O4 T4 B4 TR4 HO4 HT4 HB4 HB2 HTR2
    refine Go.Lib.hid ?_
    go_wp2
    exact bodyPost_ret (res_gr rfl rfl HTX.out) rfl ⟨_, _, _, rs, rfl, HOW.out, HBX.out⟩
end Go.Proofs.Ytdogibjgogcdkal.gr
