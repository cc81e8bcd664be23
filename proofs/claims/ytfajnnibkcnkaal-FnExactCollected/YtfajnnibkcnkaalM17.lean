/-
  Chapter 1 as the specification has it: a number into a list that rises. Chapter 7 as the specification has it: what is reached, round by round. Chapter 7: what the specification's collecting needs of lists: a slot at a time, for weak ones and others. The drawn region of l6Copy: two lists copied into a new graph, whatever the order. The drawn region of l6Copy, walked by facts.
-/
import Derived.Test.YtfajnnibkcnkaalM16
import Derived.Test.YtfajnnibkcnkaalM5
import Derived.Deep.RegionLaw
import Derived.Deep.Cut
import Derived.Deep.CutRange
import Derived.Test.YtfajnnibkcnkaalM12
import Derived.Test.YtfajnnibkcnkaalM3
import Derived.Test.YtfajnnibkcnkaalM14
namespace Go.Proofs.Ytfajnnibkcnkaal.gr
open Go.RowKit rows heads
set_option maxRecDepth 100000
set_option linter.unusedVariables false

theorem own_put {w : World} {base m : Nat} {v : Value} {T D R : List Int} {n : Int} (e : R = T ++ n :: D) (hm : (T ++ n :: D).length = m) (h : w.ownsRow base 2 1 v m ((cellsOf T ++ [.int .i64 n]) ++ cellsOf D)) : Own w base v R := by
  subst e hm
  unfold Own
  have e : cellsOf (T ++ n :: D) = (cellsOf T ++ [.int .i64 n]) ++ cellsOf D := by simp [cellsOf]
  rw [e]
  exact h
theorem row_base {w : World} {base base' n : Nat} {t : TypeId} {v : Value} {cs : List Value} (h : w.ownsRow base t 1 v n cs) (hb : base' ≤ base) : w.ownsRow base' t 1 v n cs := by
  obtain ⟨h0, ⟨h1, h2⟩ | ⟨g, cap, cur, h1, hg, hh⟩⟩ := h
  · exact ⟨h0, .inl ⟨h1, h2⟩⟩
  · exact ⟨h0, .inr ⟨g, cap, cur, h1, Nat.le_trans hb hg, hh⟩⟩
theorem row_slice {w : World} {base n : Nat} {t : TypeId} {v : Value} {xs : List Value} (h : w.ownsRow base t 1 v n xs) : ∃ a c, v = .slice a n c := by
  obtain ⟨h0, ⟨h1, h2⟩ | ⟨g, cap, cur, h1, _⟩⟩ := h
  · exact ⟨none, 0, by rw [h1, h2]⟩
  · exact ⟨_, _, h1⟩
theorem num_new (W : World) (t : TypeId) (x : Int) : ∀ j u, [Value.int .i64 x][j]? = some u → (W.alloc (.cells #[.int .i64 x] t)).cell? ((⟨W.heap.size, 0, none⟩ : Addr).add j) = some u := by
  intro j u h
  match j with
  | 0 =>
    simp at h
    subst h
    simp [Addr.add]
  | j + 1 => simp at h
/-- Behind an append onto a row from B on. -/
theorem below_app {B : Nat} {w W w' : World} {v : Value} {n : Nat} {t : TypeId} {cs : List Value} (h : Below B w W) (hr : W.ownsRow B t 1 v n cs) (hB : B ≤ W.heap.size) (hg : W.grownBy w' v.ownBlock) : Below B w w' :=
  h.trans (below_ch (ch_grown hg) hB (fun k hk => (blk_lt hr k hk).1))

set_option maxHeartbeats 8000000 in
theorem l1Put_any {w : World} {base : Nat} {v : Value} {xs : List Int} (h : Own w base v xs) (hb : base ≤ w.heap.size) (hl : xs.length ≤ 1000000) (n : Int) :
    Calls Try.prog 61 #[v, .int .i64 n] w fun e w' => ∃ v', e = .returned v' ∧ Own w' base v' (putI n xs) ∧ Below w.heap.size w w' := by
  have hI := own_ints h
  have HO : Hid _ := h
  have HI : Hid _ := hI
  obtain ⟨a, cap, rfl, hlc, hcm, hnil, hc⟩ := hI
  have HC : Hid _ := hc
  have hcb : cap ≤ 9223372036854775807 := hcm
  obtain ⟨i0, hi0, hz0, hz1, hz2⟩ := info_parts info
  have HI0 : Hid _ := hi0
  have HZ0 : Hid _ := hz0
  have HZ1 : Hid _ := hz1
  have HZ2 : Hid _ := hz2
  obtain ⟨RX, hRX⟩ : ∃ RX, putI n xs = RX := ⟨_, rfl⟩
  rw [hRX]
  have HRX : Hid _ := hRX
  clear hc h hi0 hz0 hz1 hz2 hRX
  go_enter Try.func61, Try.ntmps61
  go_wp2_with fail
  go_loopw [5] (fun p wr => ∃ k : Nat, k ≤ xs.length ∧ p = .int .i64 k ∧ (∀ j, j < k → xs.getD j 0 < n) ∧ wr = w) (fun p _ => xs.length - (intOf p).toNat)
  case atStart => exact ⟨0, Nat.zero_le _, rfl, fun j hj => by omega, rfl⟩
  case round =>
    obtain ⟨k, hk, rfl, hall, hw⟩ := hrel
    subst hw
    by_cases hgo : k < xs.length ∧ xs.getD k 0 < n
    · obtain ⟨hlt, hy⟩ := hgo
      obtain ⟨b, off, rfl, _, hcc⟩ := HC.out (by omega)
      have c0 := hcc k hlt
      have HV : Hid (∀ j, j < k + 1 → xs.getD j 0 < n) := fun j hj => by
        by_cases e : j = k
        · rw [e]; exact hy
        · exact hall j (by omega)
      clear hcc HC hall
      generalize xs.getD k 0 = y at *
      go_wp2
      exact ⟨⟨k + 1, by omega, by go_num, HV, by trivial⟩, by simp [intOf]; omega⟩
    · have hput := putI_at hk hall (fun h1 h2 => hgo ⟨h1, h2⟩)
      by_cases heq : k < xs.length ∧ xs.getD k 0 = n
      · obtain ⟨hlt, hy⟩ := heq
        obtain ⟨b, off, rfl, _, hcc⟩ := HC.out (by omega)
        have c0 := hcc k hlt
        rw [hy] at c0
        rw [if_pos ⟨hlt, hy⟩] at hput
        have HF : Hid (RX = xs) := HRX.out.symm.trans hput
        have hnn : (n == n) = true := by simp
        have hn2 : ¬ n < n := by omega
        clear hcc HC hall hput hgo hy
        go_wp2
        go_ret
        exact ⟨_, rfl, by rw [HF.out]; exact HO.out, Below.refl _ _⟩
      · rw [if_neg heq] at hput
        have HF : Hid _ := HRX.out.symm.trans hput
        have hmin : min k xs.length = k := by omega
        by_cases hlt : k < xs.length
        · obtain ⟨b, off, rfl, _, hcc⟩ := HC.out (by omega)
          have c0 := hcc k hlt
          have hy1 : ¬ xs.getD k 0 < n := fun e => hgo ⟨hlt, e⟩
          have hy2 : (xs.getD k 0 == n) = false := by
            have : ¬ xs.getD k 0 = n := fun e => heq ⟨hlt, e⟩
            simpa using this
          have hck : ¬ cap = k := by omega
          have HP1 : Hid (IntsAt wr (.slice (some ⟨b, off + k, none⟩) (xs.length - k) (cap - k)) (xs.drop k)) := ints_drop HI.out hk (fun _ => rfl) (fun e => by cases e)
          have HP2 : Hid (IntsAt wr (.slice (some ⟨b, off, none⟩) k cap) (xs.take k)) := ints_take HI.out hk
          clear hcc HC hall hput hgo heq
          generalize xs.getD k 0 = y at *
          go_wp2_with (first
            | (refine wpList_copiedN (a := (some ⟨b, off + k, none⟩)) (n := (xs.length - k)) (cap := (cap - k)) (xs := (xs.drop k)) HP1.out (by omega) rfl (.tmp 34) (.tmp 37) rfl rfl rfl ?_; intro g1 cap1 w1 hg1 hO1 hB1; have HR1 : Hid (IntsAt w1 (.slice (some ⟨g1, 0, none⟩) (xs.length - k) cap1) (xs.drop k)) := own_ints (own_row hO1 (by simp)); have HP3 : Hid (IntsAt w1 (.slice (some ⟨b, off, none⟩) k cap) (xs.take k)) := intsAt_below HP2.out hB1; have HB1 : Hid _ := hB1; have sz1 := hB1.size; clear hO1 hB1 hg1)
            | (refine wpList_copiedN (a := (some ⟨b, off, none⟩)) (n := k) (cap := cap) (xs := (xs.take k)) HP3.out (by omega) rfl (.tmp 39) (.tmp 42) rfl rfl rfl ?_; intro g2 cap2 w2 hg2 hO2 hB2; have HO2 : Hid ((w2.alloc (.cells #[.int .i64 n] 2)).ownsRow w1.heap.size 2 1 (.slice (some ⟨g2, 0, none⟩) k cap2) k (cellsOf (xs.take k))) := row_below hO2 ((Below.refl _ _).alloc (Nat.le_refl _) (.cells #[.int .i64 n] 2)); have HB2 : Hid (Below w1.heap.size w1 (w2.alloc (.cells #[.int .i64 n] 2))) := hB2.alloc hB2.size _; have sz2 := hB2.size; have sz2' : w1.heap.size ≤ (w2.alloc (.cells #[.int .i64 n] 2)).heap.size := HB2.out.size; have HNW : Hid _ := num_new w2 2 n; clear hO2 hB2 hg2)
            | (refine wpList_append_own_at _ rfl (.tmp 43) (.tmp 45) 27 rfl w1.heap.size 2 i0 (.int .i64 0) 1 8 Try.underlying27 HI0.out HZ0.out HZ1.out HZ2.out rfl (by decide) (.slice (some ⟨g2, 0, none⟩) k cap2) k (cellsOf (xs.take k)) rfl HO2.out ⟨w2.heap.size, 0, none⟩ 1 1 [.int .i64 n] rfl rfl HNW.out (by simp [Value.oneCell']) (by unfold maxLen; omega) (by omega) sz2' ?_; intro v3 w3 hO3 hg3 _ hat3; obtain ⟨a3, c3, rfl⟩ := row_slice hO3; have B3 := below_app HB2.out HO2.out sz2' hg3; have HO3 : Hid (w3.ownsRow w1.heap.size 2 1 (.slice a3 (k + 1) c3) (k + 1) (cellsOf (xs.take k) ++ [.int .i64 n])) := hO3; have HB3 : Hid _ := B3; have sz3 := B3.size; have IR3 := intsAt_below HR1.out B3; have HNW3 : Hid _ := ints_news IR3; clear hO3 hg3 hat3 B3 IR3)
            | (refine wpList_append_own_at _ rfl (.tmp 46) (.tmp 47) 27 rfl w1.heap.size 2 i0 (.int .i64 0) 1 8 Try.underlying27 HI0.out HZ0.out HZ1.out HZ2.out rfl (by decide) (.slice a3 (k + 1) c3) (k + 1) (cellsOf (xs.take k) ++ [.int .i64 n]) rfl HO3.out ⟨g1, 0, none⟩ ((xs.length - k)) cap1 (cellsOf (xs.drop k)) rfl (by simp) HNW3.out (ints_oneCell _ _) (by unfold maxLen; omega) (by omega) sz3 ?_; intro v4 w4 hO4 hg4 _ hat4; obtain ⟨a4, c4, rfl⟩ := row_slice hO4; have B4 := below_app HB3.out HO3.out sz3 hg4; have HFB : Hid (Below wr.heap.size wr w4) := HB1.out.trans (B4.mono sz1); have HFO : Hid (Own w4 base (.slice a4 (k + 1 + ((xs.length - k))) c4) RX) := own_put HF.out (by simp <;> omega) (row_base hO4 (Nat.le_trans hb sz1)); clear hO4 hg4 hat4 B4))
          go_ret
          exact ⟨_, rfl, HFO.out, HFB.out⟩
        · have ek : k = xs.length := by omega
          have hd : xs.drop k = [] := List.drop_eq_nil_of_le (by omega)
          have ht : xs.take k = xs := List.take_of_length_le (by omega)
          have HFN : Hid (RX = xs ++ n :: []) := by
            have := HF.out
            rw [hd, ht] at this
            exact this
          clear HF
          have HF : Hid (RX = xs ++ n :: []) := HFN.out
          clear HFN
          have HQ1 : Hid (IntsAt wr (.slice none 0 0) []) := ⟨none, 0, rfl, Nat.le_refl _, by decide, fun _ => rfl, fun h => absurd h (by simp)⟩
          cases a with
          | none =>
            have hc0 := hnil rfl
            have hx0 : xs = [] := List.eq_nil_of_length_eq_zero (by omega)
            subst hc0 hx0
            obtain rfl : k = 0 := by simpa using ek
            have HP1 : Hid (IntsAt wr (.slice none 0 0) []) := HQ1.out
            have HP2 : Hid (IntsAt wr (.slice none 0 0) []) := HQ1.out
            clear HC hall hput hgo heq hmin hd ht ek HQ1
            go_wp2_with (first
              | (refine wpList_copiedN (a := none) (n := 0) (cap := 0) (xs := ([] : List Int)) HP1.out (by omega) rfl (.tmp 34) (.tmp 37) rfl rfl rfl ?_; intro g1 cap1 w1 hg1 hO1 hB1; have HR1 : Hid (IntsAt w1 (.slice (some ⟨g1, 0, none⟩) 0 cap1) ([] : List Int)) := own_ints (own_row hO1 (by simp)); have HP3 : Hid (IntsAt w1 (.slice none 0 0) ([] : List Int)) := intsAt_below HP2.out hB1; have HB1 : Hid _ := hB1; have sz1 := hB1.size; clear hO1 hB1 hg1)
              | (refine wpList_copiedN (a := none) (n := 0) (cap := 0) (xs := ([] : List Int)) HP3.out (by omega) rfl (.tmp 39) (.tmp 42) rfl rfl rfl ?_; intro g2 cap2 w2 hg2 hO2 hB2; have HO2 : Hid ((w2.alloc (.cells #[.int .i64 n] 2)).ownsRow w1.heap.size 2 1 (.slice (some ⟨g2, 0, none⟩) 0 cap2) 0 (cellsOf ([] : List Int))) := row_below hO2 ((Below.refl _ _).alloc (Nat.le_refl _) (.cells #[.int .i64 n] 2)); have HB2 : Hid (Below w1.heap.size w1 (w2.alloc (.cells #[.int .i64 n] 2))) := hB2.alloc hB2.size _; have sz2 := hB2.size; have sz2' : w1.heap.size ≤ (w2.alloc (.cells #[.int .i64 n] 2)).heap.size := HB2.out.size; have HNW : Hid _ := num_new w2 2 n; clear hO2 hB2 hg2)
              | (refine wpList_append_own_at _ rfl (.tmp 43) (.tmp 45) 27 rfl w1.heap.size 2 i0 (.int .i64 0) 1 8 Try.underlying27 HI0.out HZ0.out HZ1.out HZ2.out rfl (by decide) (.slice (some ⟨g2, 0, none⟩) 0 cap2) 0 (cellsOf ([] : List Int)) rfl HO2.out ⟨w2.heap.size, 0, none⟩ 1 1 [.int .i64 n] rfl rfl HNW.out (by simp [Value.oneCell']) (by unfold maxLen; omega) (by omega) sz2' ?_; intro v3 w3 hO3 hg3 _ hat3; obtain ⟨a3, c3, rfl⟩ := row_slice hO3; have B3 := below_app HB2.out HO2.out sz2' hg3; have HO3 : Hid (w3.ownsRow w1.heap.size 2 1 (.slice a3 (0 + 1) c3) (0 + 1) (cellsOf ([] : List Int) ++ [.int .i64 n])) := hO3; have HB3 : Hid _ := B3; have sz3 := B3.size; have IR3 := intsAt_below HR1.out B3; have HNW3 : Hid _ := ints_news IR3; clear hO3 hg3 hat3 B3 IR3)
              | (refine wpList_append_own_at _ rfl (.tmp 46) (.tmp 47) 27 rfl w1.heap.size 2 i0 (.int .i64 0) 1 8 Try.underlying27 HI0.out HZ0.out HZ1.out HZ2.out rfl (by decide) (.slice a3 (0 + 1) c3) (0 + 1) (cellsOf ([] : List Int) ++ [.int .i64 n]) rfl HO3.out ⟨g1, 0, none⟩ (0) cap1 (cellsOf ([] : List Int)) rfl (by simp) HNW3.out (ints_oneCell _ _) (by unfold maxLen; omega) (by omega) sz3 ?_; intro v4 w4 hO4 hg4 _ hat4; obtain ⟨a4, c4, rfl⟩ := row_slice hO4; have B4 := below_app HB3.out HO3.out sz3 hg4; have HFB : Hid (Below wr.heap.size wr w4) := HB1.out.trans (B4.mono sz1); have HFO : Hid (Own w4 base (.slice a4 (0 + 1 + (0)) c4) RX) := own_put HF.out (by simp <;> omega) (row_base hO4 (Nat.le_trans hb sz1)); clear hO4 hg4 hat4 B4))
            go_ret
            exact ⟨_, rfl, HFO.out, HFB.out⟩
          | some ad =>
            obtain ⟨g0, hg0⟩ : ∃ g0, ad = ⟨g0, 0, none⟩ := by
              obtain ⟨_, ⟨h1, _⟩ | ⟨g, c', cur, h1, _⟩⟩ := HO.out
              · cases h1
              · injection h1 with h1
                injection h1 with h1
                exact ⟨g, h1⟩
            subst hg0 ek
            have HP2 : Hid (IntsAt wr (.slice (some ⟨g0, 0, none⟩) xs.length cap) xs) := HI.out
            by_cases hck : cap = xs.length
            · subst hck
              have HP1 : Hid (IntsAt wr (.slice (some ⟨g0, 0, none⟩) 0 0) []) := ⟨_, 0, rfl, Nat.le_refl _, by decide, fun e => (by cases e), fun h => absurd h (by simp)⟩
              clear HC hall hput hgo heq hmin hd ht HQ1
              go_wp2_with (first
                | (refine wpList_copiedN (a := (some ⟨g0, 0, none⟩)) (n := 0) (cap := 0) (xs := ([] : List Int)) HP1.out (by omega) rfl (.tmp 34) (.tmp 37) rfl rfl rfl ?_; intro g1 cap1 w1 hg1 hO1 hB1; have HR1 : Hid (IntsAt w1 (.slice (some ⟨g1, 0, none⟩) 0 cap1) ([] : List Int)) := own_ints (own_row hO1 (by simp)); have HP3 : Hid (IntsAt w1 (.slice (some ⟨g0, 0, none⟩) xs.length xs.length) xs) := intsAt_below HP2.out hB1; have HB1 : Hid _ := hB1; have sz1 := hB1.size; clear hO1 hB1 hg1)
                | (refine wpList_copiedN (a := (some ⟨g0, 0, none⟩)) (n := xs.length) (cap := xs.length) (xs := xs) HP3.out (by omega) rfl (.tmp 39) (.tmp 42) rfl rfl rfl ?_; intro g2 cap2 w2 hg2 hO2 hB2; have HO2 : Hid ((w2.alloc (.cells #[.int .i64 n] 2)).ownsRow w1.heap.size 2 1 (.slice (some ⟨g2, 0, none⟩) xs.length cap2) xs.length (cellsOf xs)) := row_below hO2 ((Below.refl _ _).alloc (Nat.le_refl _) (.cells #[.int .i64 n] 2)); have HB2 : Hid (Below w1.heap.size w1 (w2.alloc (.cells #[.int .i64 n] 2))) := hB2.alloc hB2.size _; have sz2 := hB2.size; have sz2' : w1.heap.size ≤ (w2.alloc (.cells #[.int .i64 n] 2)).heap.size := HB2.out.size; have HNW : Hid _ := num_new w2 2 n; clear hO2 hB2 hg2)
                | (refine wpList_append_own_at _ rfl (.tmp 43) (.tmp 45) 27 rfl w1.heap.size 2 i0 (.int .i64 0) 1 8 Try.underlying27 HI0.out HZ0.out HZ1.out HZ2.out rfl (by decide) (.slice (some ⟨g2, 0, none⟩) xs.length cap2) xs.length (cellsOf xs) rfl HO2.out ⟨w2.heap.size, 0, none⟩ 1 1 [.int .i64 n] rfl rfl HNW.out (by simp [Value.oneCell']) (by unfold maxLen; omega) (by omega) sz2' ?_; intro v3 w3 hO3 hg3 _ hat3; obtain ⟨a3, c3, rfl⟩ := row_slice hO3; have B3 := below_app HB2.out HO2.out sz2' hg3; have HO3 : Hid (w3.ownsRow w1.heap.size 2 1 (.slice a3 (xs.length + 1) c3) (xs.length + 1) (cellsOf xs ++ [.int .i64 n])) := hO3; have HB3 : Hid _ := B3; have sz3 := B3.size; have IR3 := intsAt_below HR1.out B3; have HNW3 : Hid _ := ints_news IR3; clear hO3 hg3 hat3 B3 IR3)
                | (refine wpList_append_own_at _ rfl (.tmp 46) (.tmp 47) 27 rfl w1.heap.size 2 i0 (.int .i64 0) 1 8 Try.underlying27 HI0.out HZ0.out HZ1.out HZ2.out rfl (by decide) (.slice a3 (xs.length + 1) c3) (xs.length + 1) (cellsOf xs ++ [.int .i64 n]) rfl HO3.out ⟨g1, 0, none⟩ (0) cap1 (cellsOf ([] : List Int)) rfl (by simp) HNW3.out (ints_oneCell _ _) (by unfold maxLen; omega) (by omega) sz3 ?_; intro v4 w4 hO4 hg4 _ hat4; obtain ⟨a4, c4, rfl⟩ := row_slice hO4; have B4 := below_app HB3.out HO3.out sz3 hg4; have HFB : Hid (Below wr.heap.size wr w4) := HB1.out.trans (B4.mono sz1); have HFO : Hid (Own w4 base (.slice a4 (xs.length + 1 + (0)) c4) RX) := own_put HF.out (by simp <;> omega) (row_base hO4 (Nat.le_trans hb sz1)); clear hO4 hg4 hat4 B4))
              go_ret
              exact ⟨_, rfl, HFO.out, HFB.out⟩
            · have HP1 : Hid (IntsAt wr (.slice (some ⟨g0, xs.length, none⟩) 0 (cap - xs.length)) []) := ⟨_, _, rfl, Nat.zero_le _, Nat.le_trans (Nat.sub_le _ _) hcm, fun e => (by cases e), fun h => absurd h (by simp)⟩
              clear HC hall hput hgo heq hmin hd ht HQ1
              go_wp2_with (first
                | (refine wpList_copiedN (a := (some ⟨g0, xs.length, none⟩)) (n := 0) (cap := (cap - xs.length)) (xs := ([] : List Int)) HP1.out (by omega) rfl (.tmp 34) (.tmp 37) rfl rfl rfl ?_; intro g1 cap1 w1 hg1 hO1 hB1; have HR1 : Hid (IntsAt w1 (.slice (some ⟨g1, 0, none⟩) 0 cap1) ([] : List Int)) := own_ints (own_row hO1 (by simp)); have HP3 : Hid (IntsAt w1 (.slice (some ⟨g0, 0, none⟩) xs.length cap) xs) := intsAt_below HP2.out hB1; have HB1 : Hid _ := hB1; have sz1 := hB1.size; clear hO1 hB1 hg1)
                | (refine wpList_copiedN (a := (some ⟨g0, 0, none⟩)) (n := xs.length) (cap := cap) (xs := xs) HP3.out (by omega) rfl (.tmp 39) (.tmp 42) rfl rfl rfl ?_; intro g2 cap2 w2 hg2 hO2 hB2; have HO2 : Hid ((w2.alloc (.cells #[.int .i64 n] 2)).ownsRow w1.heap.size 2 1 (.slice (some ⟨g2, 0, none⟩) xs.length cap2) xs.length (cellsOf xs)) := row_below hO2 ((Below.refl _ _).alloc (Nat.le_refl _) (.cells #[.int .i64 n] 2)); have HB2 : Hid (Below w1.heap.size w1 (w2.alloc (.cells #[.int .i64 n] 2))) := hB2.alloc hB2.size _; have sz2 := hB2.size; have sz2' : w1.heap.size ≤ (w2.alloc (.cells #[.int .i64 n] 2)).heap.size := HB2.out.size; have HNW : Hid _ := num_new w2 2 n; clear hO2 hB2 hg2)
                | (refine wpList_append_own_at _ rfl (.tmp 43) (.tmp 45) 27 rfl w1.heap.size 2 i0 (.int .i64 0) 1 8 Try.underlying27 HI0.out HZ0.out HZ1.out HZ2.out rfl (by decide) (.slice (some ⟨g2, 0, none⟩) xs.length cap2) xs.length (cellsOf xs) rfl HO2.out ⟨w2.heap.size, 0, none⟩ 1 1 [.int .i64 n] rfl rfl HNW.out (by simp [Value.oneCell']) (by unfold maxLen; omega) (by omega) sz2' ?_; intro v3 w3 hO3 hg3 _ hat3; obtain ⟨a3, c3, rfl⟩ := row_slice hO3; have B3 := below_app HB2.out HO2.out sz2' hg3; have HO3 : Hid (w3.ownsRow w1.heap.size 2 1 (.slice a3 (xs.length + 1) c3) (xs.length + 1) (cellsOf xs ++ [.int .i64 n])) := hO3; have HB3 : Hid _ := B3; have sz3 := B3.size; have IR3 := intsAt_below HR1.out B3; have HNW3 : Hid _ := ints_news IR3; clear hO3 hg3 hat3 B3 IR3)
                | (refine wpList_append_own_at _ rfl (.tmp 46) (.tmp 47) 27 rfl w1.heap.size 2 i0 (.int .i64 0) 1 8 Try.underlying27 HI0.out HZ0.out HZ1.out HZ2.out rfl (by decide) (.slice a3 (xs.length + 1) c3) (xs.length + 1) (cellsOf xs ++ [.int .i64 n]) rfl HO3.out ⟨g1, 0, none⟩ (0) cap1 (cellsOf ([] : List Int)) rfl (by simp) HNW3.out (ints_oneCell _ _) (by unfold maxLen; omega) (by omega) sz3 ?_; intro v4 w4 hO4 hg4 _ hat4; obtain ⟨a4, c4, rfl⟩ := row_slice hO4; have B4 := below_app HB3.out HO3.out sz3 hg4; have HFB : Hid (Below wr.heap.size wr w4) := HB1.out.trans (B4.mono sz1); have HFO : Hid (Own w4 base (.slice a4 (xs.length + 1 + (0)) c4) RX) := own_put HF.out (by simp <;> omega) (row_base hO4 (Nat.le_trans hb sz1)); clear hO4 hg4 hat4 B4))
              go_ret
              exact ⟨_, rfl, HFO.out, HFB.out⟩
end Go.Proofs.Ytfajnnibkcnkaal.gr
namespace Go.Proofs.Ytfajnnibkcnkaal.gr
open Go.RowKit rows heads
set_option maxRecDepth 100000
set_option linter.unusedVariables false

/-- What these refs lead to is in the list. -/
def goesI (xs : List Int) (l : List Rf) : Prop := ∀ r ∈ l, r.1 = 2 → r.2 ∈ xs
theorem goesI_mono {xs ys : List Int} {l : List Rf} (h : goesI xs l) (hs : ∀ a ∈ xs, a ∈ ys) : goesI ys l := fun r hr h2 => hs _ (h r hr h2)
/-- A list of Ids that are reached. -/
structure Good (G : Gr) (xs : List Int) : Prop where
  rise : Rising xs
  sound : ∀ a ∈ xs, ∃ p, Rch G p ∧ (G.objs.getD p obD).id = a
theorem good_nil (G : Gr) : Good G [] := ⟨List.Pairwise.nil, fun a h => absurd h (by simp)⟩
theorem good_put {G : Gr} {xs : List Int} (h : Good G xs) {p : Nat} (hp : Rch G p) {n : Int} (hn : (G.objs.getD p obD).id = n) : Good G (putI n xs) :=
  ⟨rising_putI h.rise, fun a ha => by
    rcases mem_putI.1 ha with e | e
    · rw [e]; exact ⟨p, hp, hn⟩
    · exact h.sound a e⟩
theorem good_len {G : Gr} (hok : gOk G = true) {xs : List Int} (h : Good G xs) : xs.length ≤ 100000 := by
  have hn := (gOk_len hok).2.2.2
  have := rising_len (N := G.next) (m := 0) h.rise (fun x hx => by
    obtain ⟨p, hp, rfl⟩ := h.sound x hx
    have hlt := rch_lt hp
    obtain ⟨h1, h2, _⟩ := obOk_lt ((right_of hok).ob p hlt)
    have h3 : 0 ≤ lastOf G.objs p := by
      match p with
      | 0 => exact Int.le_refl _
      | p + 1 =>
        show 0 ≤ (G.objs.getD p obD).id
        have hpos : ∀ j, j < G.objs.length → 0 < (G.objs.getD j obD).id := fun j => by
          induction j with
          | zero => intro hj; have := (obOk_lt ((right_of hok).ob 0 hj)).1; exact this
          | succ j ih =>
            intro hj
            have h5 := (obOk_lt ((right_of hok).ob (j + 1) hj)).1
            have h6 := ih (by omega)
            have h7 : lastOf G.objs (j + 1) = (G.objs.getD j obD).id := rfl
            omega
        have := hpos p (by omega)
        omega
    omega)
  omega
/-- The place of an Id. -/
theorem right_ref {G : Gr} (hok : gOk G = true) {r : Rf} (hr : r ∈ G.roots ++ G.mourned ∨ ∃ p, p < G.objs.length ∧ r ∈ (G.objs.getD p obD).slots) (h2 : r.1 = 2) : ledB G.objs r = true ∧ (G.objs.getD (ledP G.objs r) obD).id = r.2 := by
  have R := right_of hok
  refine led_right ?_ h2
  rcases hr with h | ⟨p, hp, h⟩
  · rcases List.mem_append.1 h with h | h
    · obtain ⟨i, hi, rfl⟩ := List.getElem_of_mem h
      have h6 := (gOk_len hok).2.1
      have := R.root i (by omega)
      rw [List.getD_eq_getElem?_getD, List.getElem?_eq_getElem hi] at this
      exact this
    · obtain ⟨i, hi, rfl⟩ := List.getElem_of_mem h
      have := (R.mo i hi).2
      rw [List.getD_eq_getElem?_getD, List.getElem?_eq_getElem hi] at this
      exact this
  · obtain ⟨i, hi, rfl⟩ := List.getElem_of_mem h
    have := R.sl p hp i hi
    rw [List.getD_eq_getElem?_getD, List.getElem?_eq_getElem hi] at this
    exact this
theorem right_key {G : Gr} (hG : gOk G = true) {p : Nat} (hp : p < G.objs.length) (hf : (G.objs.getD p obD).fmt = 2) : 0 < (G.objs.getD p obD).slots.length ∧ (G.objs.getD p obD).slots.getD 0 refD ∈ (G.objs.getD p obD).slots := by
  have h := (obOk_lt ((right_of hG).ob p hp)).2.2.2
  rw [hf] at h
  simp only [hok] at h
  rw [if_neg (by decide)] at h
  simp only [Bool.and_eq_true, Bool.or_eq_true, decide_eq_true_eq, beq_iff_eq] at h
  have h1 : 0 < (G.objs.getD p obD).slots.length := by omega
  clear h hf
  revert h1
  generalize (G.objs.getD p obD).slots = sl
  intro h1
  refine ⟨h1, ?_⟩
  rw [List.getD_eq_getElem?_getD, List.getElem?_eq_getElem h1]
  exact List.getElem_mem h1
theorem onw_mem {o : Ob} {r : Rf} (h : r ∈ onw o) : r ∈ o.slots := by
  unfold onw at h
  split at h
  · exact h
  · split at h
    · exact List.mem_of_mem_drop h
    · simp at h
/-- Nothing is left to do of the object at k. -/
def DoneI (G : Gr) (xs : List Int) (k : Nat) : Prop := (G.objs.getD k obD).id ∈ xs → (awt G.objs (G.objs.getD k obD) = none → goesI xs (onw (G.objs.getD k obD))) ∧ ∀ q, awt G.objs (G.objs.getD k obD) = some q → (G.objs.getD q obD).id ∈ xs → goesI xs (onw (G.objs.getD k obD))
/-- Where nothing is left to do, all that is reached is there. -/
theorem good_all {G : Gr} (hG : gOk G = true) {xs : List Int} (h : Good G xs) (hr : goesI xs (G.roots ++ G.mourned)) (hd : ∀ k, k < G.objs.length → DoneI G xs k) : IsR G xs := by
  have all : ∀ p, Rch G p → p < G.objs.length ∧ (G.objs.getD p obD).id ∈ xs := fun p hp => hp (fun p => p < G.objs.length ∧ (G.objs.getD p obD).id ∈ xs) (by
    refine ⟨fun r h1 hl => ⟨ledP_lt hl, ?_⟩, fun p hp ha r h1 hl => ⟨ledP_lt hl, ?_⟩, fun p q hp ha hq r h1 hl => ⟨ledP_lt hl, ?_⟩⟩
    · rw [(right_ref hG (.inl h1) (led_two hl)).2]
      exact hr r h1 (led_two hl)
    · rw [(right_ref hG (.inr ⟨p, hp.1, onw_mem h1⟩) (led_two hl)).2]
      exact (hd p hp.1 hp.2).1 ha r h1 (led_two hl)
    · rw [(right_ref hG (.inr ⟨p, hp.1, onw_mem h1⟩) (led_two hl)).2]
      exact (hd p hp.1 hp.2).2 q ha hq.2 r h1 (led_two hl))
  obtain ⟨ys, hy⟩ := isR_ex G
  have e : xs = ys := rising_ext h.rise (isR_rising hG hy) fun a => by
    rw [isR_mem hy]
    exact ⟨h.sound a, fun ⟨p, hp, e⟩ => by rw [← e]; exact (all p hp).2⟩
  rw [e]
  exact hy
theorem rise_inj {os : List Ob} (h : Rise os) {p q : Nat} (hp : p < os.length) (hq : q < os.length) (e : (os.getD p obD).id = (os.getD q obD).id) : p = q := by
  rcases Nat.lt_trichotomy p q with h1 | h1 | h1
  · have := h p q h1 hq; omega
  · exact h1
  · have := h q p h1 hp; omega
/-- From which slot on an object leads on, as the specification finds it. -/
def FromOk (o : Ob) (ys : List Int) (F : Nat) : Prop := (o.fmt = 1 ∧ F = o.slots.length) ∨ (o.fmt = 0 ∧ F = 0) ∨ (o.fmt = 2 ∧ F = 1 ∧ ¬ ((o.slots.getD 0 refD).1 = 2 ∧ (o.slots.getD 0 refD).2 ∉ ys)) ∨ (o.fmt = 2 ∧ F = o.slots.length ∧ (o.slots.getD 0 refD).1 = 2 ∧ (o.slots.getD 0 refD).2 ∉ ys)
theorem from_ok {G : Gr} (hG : gOk G = true) {k : Nat} (hk : k < G.objs.length) {ys : List Int} (hg : Good G ys) (hin : (G.objs.getD k obD).id ∈ ys) {F : Nat} (hF : FromOk (G.objs.getD k obD) ys F) :
    F ≤ (G.objs.getD k obD).slots.length ∧ (∀ r ∈ (G.objs.getD k obD).slots.drop F, r.1 = 2 → ∃ p, Rch G p ∧ (G.objs.getD p obD).id = r.2) ∧ (goesI ys ((G.objs.getD k obD).slots.drop F) → DoneI G ys k) := by
  have hR : Rch G k := by
    obtain ⟨p, hp, e⟩ := hg.sound _ hin
    rw [rise_inj (gOk_rise hG) (rch_lt hp) hk e] at hp
    exact hp
  have ref : ∀ r ∈ (G.objs.getD k obD).slots, r.1 = 2 → ledB G.objs r = true ∧ (G.objs.getD (ledP G.objs r) obD).id = r.2 := fun r hr h2 => right_ref hG (.inr ⟨k, hk, hr⟩) h2
  rcases hF with ⟨hf, rfl⟩ | ⟨hf, rfl⟩ | ⟨hf, rfl, hn⟩ | ⟨hf, rfl, h2, hn⟩
  · have eo : onw (G.objs.getD k obD) = [] := by unfold onw; rw [if_neg (by omega), if_neg (by omega)]
    refine ⟨Nat.le_refl _, fun r hr => by simp at hr, fun _ _ => ⟨fun _ => by rw [eo]; exact fun r hr => absurd hr (by simp), fun q _ _ => by rw [eo]; exact fun r hr => absurd hr (by simp)⟩⟩
  · have eo : onw (G.objs.getD k obD) = (G.objs.getD k obD).slots := by unfold onw; rw [if_pos hf]
    have ea : awt G.objs (G.objs.getD k obD) = none := by unfold awt; rw [if_neg (by omega)]
    refine ⟨Nat.zero_le _, fun r hr h2 => ?_, fun hgo _ => ⟨fun _ => by rw [eo]; exact hgo, fun q e _ => (by rw [ea] at e; cases e)⟩⟩
    rw [List.drop_zero] at hr
    exact ⟨_, Rch.on0 k hR ea r (by rw [eo]; exact hr) (ref r hr h2).1, (ref r hr h2).2⟩
  · have eo : onw (G.objs.getD k obD) = (G.objs.getD k obD).slots.drop 1 := by unfold onw; rw [if_neg (by omega), if_pos hf]
    obtain ⟨h0, hm⟩ := right_key hG hk hf
    refine ⟨h0, fun r hr h2 => ?_, fun hgo _ => ⟨fun _ => by rw [eo]; exact hgo, fun q _ _ => by rw [eo]; exact hgo⟩⟩
    have hr' := List.mem_of_mem_drop hr
    have hl := ref r hr' h2
    cases ha : awt G.objs (G.objs.getD k obD) with
    | none => exact ⟨_, Rch.on0 k hR ha r (by rw [eo]; exact hr) hl.1, hl.2⟩
    | some q =>
      have hq : Rch G q := by
        unfold awt at ha
        split at ha
        · rename_i hc
          injection ha with ha
          have h22 := led_two hc.2
          have hin2 : ((G.objs.getD k obD).slots.getD 0 refD).2 ∈ ys := by
            apply Classical.byContradiction
            intro hno
            exact hn ⟨h22, hno⟩
          obtain ⟨p, hp, e⟩ := hg.sound _ hin2
          have e2 := (ref _ hm h22).2
          rw [ha] at e2
          have hqlt : q < G.objs.length := by rw [← ha]; exact ledP_lt hc.2
          rw [rise_inj (gOk_rise hG) (rch_lt hp) hqlt (e.trans e2.symm)] at hp
          exact hp
        · cases ha
      exact ⟨_, Rch.on1 k q hR ha hq r (by rw [eo]; exact hr) hl.1, hl.2⟩
  · obtain ⟨h0, hm⟩ := right_key hG hk hf
    have hl := ref _ hm h2
    have ea : awt G.objs (G.objs.getD k obD) = some (ledP G.objs ((G.objs.getD k obD).slots.getD 0 refD)) := by unfold awt; rw [if_pos ⟨hf, hl.1⟩]
    refine ⟨Nat.le_refl _, fun r hr => by simp at hr, fun _ _ => ⟨fun e => (by rw [ea] at e; cases e), fun q e hq => ?_⟩⟩
    rw [ea] at e
    injection e with e
    rw [← e, hl.2] at hq
    exact absurd hq hn
theorem isR_unique {G : Gr} {xs ys : List Int} (h : IsR G xs) (h' : IsR G ys) : xs = ys := by
  obtain ⟨f, hf, rfl⟩ := h'
  exact isR_eq h hf
end Go.Proofs.Ytfajnnibkcnkaal.gr
namespace Go.Proofs.Ytfajnnibkcnkaal.gr
open Go.RowKit rows heads

/-- The objects, k of them loosened, and the first i slots of the next one, if it is weak. -/
def looseJ (os : List Ob) (f : Nat → Bool) (k i : Nat) : List Ob := if (os.getD k obD).fmt = 1 then looseI os f k i else looseK os f k
theorem looseJ_zero {os : List Ob} {f : Nat → Bool} {k : Nat} (hk : k < os.length) : looseJ os f k 0 = looseK os f k := by
  unfold looseJ
  split
  · exact looseI_zero hk
  · rfl
theorem looseJ_all {os : List Ob} {f : Nat → Bool} {k : Nat} (hk : k < os.length) (h1 : f k = true) : looseJ os f k (os.getD k obD).slots.length = looseK os f (k + 1) := by
  unfold looseJ
  split
  · rename_i h2; exact looseI_all hk h1 h2
  · rename_i h2; exact (looseK_skip hk (.inr h2)).symm
theorem looseJ_next {os : List Ob} {f : Nat → Bool} {k i : Nat} (hk : k < os.length) (hi : i < (os.getD k obD).slots.length) :
    looseJ os f k (i + 1) = if ((os.getD k obD).fmt == 1 && looseB os f ((os.getD k obD).slots.getD i refD)) = true then setSlot (looseJ os f k i) k i refD else looseJ os f k i := by
  unfold looseJ
  by_cases h : (os.getD k obD).fmt = 1
  · have h' : ((os.getD k obD).fmt == 1) = true := by simpa using h
    rw [if_pos h, if_pos h, h', Bool.true_and]
    exact looseI_next hk hi
  · have h' : ((os.getD k obD).fmt == 1) = false := by simpa using h
    rw [if_neg h, if_neg h, h', Bool.false_and, if_neg (by simp)]
theorem looseJ_slots {os : List Ob} {f : Nat → Bool} {k i : Nat} (hk : k < os.length) : ((looseJ os f k i).getD k obD).slots.length = (os.getD k obD).slots.length ∧ ((looseJ os f k i).getD k obD).slots.getD i refD = (os.getD k obD).slots.getD i refD := by
  unfold looseJ
  split
  · rw [looseI_getD hk hk, if_pos rfl]
    refine ⟨?_, take_map_get⟩
    simp only [List.length_append, List.length_map, List.length_take, List.length_drop]
    omega
  · rw [looseK_fmt hk (Nat.lt_irrefl _)]
    exact ⟨rfl, rfl⟩
theorem keptM_set (ms : List MO) (f : Nat → Bool) (k : Nat) (x : MO) : keptM (ms.set k x) f k = keptM ms f k := by
  unfold keptM
  apply List.map_congr_left
  intro p hp
  have hp := List.mem_range.1 (List.mem_filter.1 hp).1
  rw [List.getD_eq_getElem?_getD, List.getElem?_set_ne (by omega), List.getD_eq_getElem?_getD]
/-- An id is among those of the places that are kept just where its place is. -/
theorem pick_mem {G : Gr} (hr : Right G) {f : Nat → Bool} {p : Nat} (hp : p < G.objs.length) : decide ((G.objs.getD p obD).id ∈ pick G.objs f G.objs.length) = f p := by
  have h : (G.objs.getD p obD).id ∈ pick G.objs f G.objs.length ↔ f p = true := by
    unfold pick
    constructor
    · intro h
      obtain ⟨q, hq, e⟩ := List.mem_map.1 h
      obtain ⟨h1, h2⟩ := List.mem_filter.1 hq
      have := rise_inj (gOk_rise hr.gOk) (List.mem_range.1 h1) hp e
      rw [← this]
      exact h2
    · intro h
      exact List.mem_map.2 ⟨p, List.mem_filter.2 ⟨List.mem_range.2 hp, h⟩, rfl⟩
  cases e : f p
  · exact decide_eq_false (fun h' => by rw [h.1 h'] at e; cases e)
  · exact decide_eq_true (h.2 e)
theorem least_of {p : Nat → Prop} : ∀ n, p n → ∃ m, p m ∧ ∀ i, i < m → ¬ p i := by
  classical
  intro n
  induction n using Nat.strongRecOn with
  | ind n ih =>
    intro h
    by_cases h' : ∃ i, i < n ∧ p i
    · obtain ⟨i, h1, h2⟩ := h'
      exact ih i h1 h2
    · exact ⟨n, h, fun i hi hp => h' ⟨i, hi, hp⟩⟩
theorem atI_id {os : List Ob} {id : Int} (h : 0 ≤ atI os id) : (os.getD (atI os id).toNat obD).id = id := by
  by_cases hx : ∃ m, m < os.length ∧ (os.getD m obD).id = id
  · obtain ⟨n, hn⟩ := hx
    obtain ⟨m, ⟨h1, h2⟩, h3⟩ := least_of (p := fun m => m < os.length ∧ (os.getD m obD).id = id) n hn
    rw [atI_at h1 h2 (fun i hi e => h3 i hi ⟨by omega, e⟩), Int.toNat_natCast]
    exact h2
  · rw [atI_no (fun m hm e => hx ⟨m, hm, e⟩)] at h
    omega
theorem pick_loose {G : Gr} (hr : Right G) {f : Nat → Bool} {e : Rf} (he : refOk G.objs e = true) : (e.1 == 2 && !(decide (e.2 ∈ pick G.objs f G.objs.length))) = looseB G.objs f e := by
  unfold looseB
  by_cases h2 : e.1 = 2
  · obtain ⟨h3, h4⟩ := refOk_two he h2
    have hp : (atI G.objs e.2).toNat < G.objs.length := by omega
    have hid : (G.objs.getD (atI G.objs e.2).toNat obD).id = e.2 := atI_id h3
    have := pick_mem hr (f := f) hp
    rw [hid] at this
    rw [this]
  · have : (e.1 == 2) = false := by simpa using h2
    rw [this]; rfl
end Go.Proofs.Ytfajnnibkcnkaal.gr
namespace Go.Proofs.Ytfajnnibkcnkaal.gr
open Go.RowKit rows heads region
set_option maxRecDepth 100000

/-- The block of a value. -/
def bOf : Value → Nat
  | .slice (some a) _ _ => a.block
  | .pointer (some a) => a.block
  | _ => 0
def grp (k : Nat) : Nat := if k = 0 ∨ k = 3 then 1 else if k = 4 ∨ k = 7 then 2 else if k = 13 then 3 else 0
abbrev dstCg (k : Nat) : Nat := if k = 13 then 3 else 6 + k
def DCg (s : Nat) : Bool := s == 3 || (decide (6 ≤ s) && decide (s ≤ 18))
theorem dstC_inj (k : Nat) (hk : k < 14) : ∀ j, j < 14 → dstCg j = dstCg k → j = k := by
  intro j hj e
  unfold dstCg at e
  split at e <;> split at e <;> omega
/-- What is known of the slot of the operation k. -/
def FCg (n0 P : Nat) (r m : Value) (G : Gr) (k : Nat) (t : Value) (w : World) : Prop :=
  match k with
  | 0 => ∃ g, t = .slice (some ⟨g, 0, none⟩) 0 0 ∧ w.heap[g]? = some (.cells #[] 80 (0, 0))
  | 1 => t = .pointer (some ⟨P, 1, none⟩)
  | 2 => t = r
  | 3 => ∃ q c, n0 ≤ q ∧ t = .slice (some ⟨q, 0, none⟩) G.roots.length c ∧ OwnR w n0 t G.roots
  | 4 => ∃ g, t = .slice (some ⟨g, 0, none⟩) 0 0 ∧ w.heap[g]? = some (.cells #[] 80 (0, 0))
  | 5 => t = .pointer (some ⟨P, 2, none⟩)
  | 6 => t = m
  | 7 => ∃ q c, n0 ≤ q ∧ t = .slice (some ⟨q, 0, none⟩) G.mourned.length c ∧ OwnR w n0 t G.mourned
  | 8 => t = .pointer (some ⟨P, 3, none⟩)
  | 9 => t = .int .i64 G.next
  | 10 => t = .pointer (some ⟨P, 4, none⟩)
  | 11 => t = .int .i64 G.seed
  | 12 => True
  | 13 => ∃ B, n0 ≤ B ∧ t = .pointer (some ⟨B, 0, none⟩) ∧ Five w B 32 (.slice none 0 0) (.slice none 0 0) (.slice none 0 0) (.int .i64 0) (.int .i64 0)
  | _ => False
theorem FC_below {n0 P : Nat} {r m : Value} {G : Gr} {w w' : World} (hb : Below w.heap.size w w') (k : Nat) (t : Value) (h : FCg n0 P r m G k t w) : FCg n0 P r m G k t w' := by
  have B : ∀ {g : Nat} {o : Obj}, w.heap[g]? = some o → w'.heap[g]? = some o := fun ho => (hb.block _ (Array.getElem?_eq_some_iff.1 ho).1).trans ho
  match k, h with
  | 0, ⟨g, h1, h2⟩ => exact ⟨g, h1, B h2⟩
  | 1, h => exact h
  | 2, h => exact h
  | 3, ⟨q, c, h1, h2, h3⟩ => exact ⟨q, c, h1, h2, ownR_below h3 hb⟩
  | 4, ⟨g, h1, h2⟩ => exact ⟨g, h1, B h2⟩
  | 5, h => exact h
  | 6, h => exact h
  | 7, ⟨q, c, h1, h2, h3⟩ => exact ⟨q, c, h1, h2, ownR_below h3 hb⟩
  | 8, h => exact h
  | 9, h => exact h
  | 10, h => exact h
  | 11, h => exact h
  | 12, _ => exact trivial
  | 13, ⟨B, h1, h2, h3⟩ => exact ⟨B, h1, h2, five_below h3 hb⟩
  | _ + 14, h => exact h.elim

/-- The new graph lies there. -/
def DoneC (n0 : Nat) (G : Gr) (t : Value) (w : World) : Prop := ∃ B q1 c1 q2 c2, t = .pointer (some ⟨B, 0, none⟩) ∧ n0 ≤ B ∧ n0 ≤ q1 ∧ n0 ≤ q2 ∧ B ≠ q1 ∧ B ≠ q2 ∧ q1 ≠ q2 ∧ Five w B 32 (.slice none 0 0) (.slice (some ⟨q1, 0, none⟩) G.roots.length c1) (.slice (some ⟨q2, 0, none⟩) G.mourned.length c2) (.int .i64 G.next) (.int .i64 G.seed) ∧ OwnR w n0 (.slice (some ⟨q1, 0, none⟩) G.roots.length c1) G.roots ∧ OwnR w n0 (.slice (some ⟨q2, 0, none⟩) G.mourned.length c2) G.mourned

structure IC (w0 : World) (n0 P : Nat) (r m : Value) (G : Gr) (l : Array Bool) (u : Nat → Value) (w : World) : Prop where
  below : Below w0.heap.size w0 w
  fact : ∀ k, k < 14 → l.getD k false = true → FCg n0 P r m G k (u (dstCg k)) w
  agg : l.getD 12 false = true → u 18 = gv (.slice none 0 0) (u 9) (u 13) G.next G.seed
  lt : ∀ i, i < 14 → grp i ≠ 0 → l.getD i false = true → n0 ≤ bOf (u (dstCg i)) ∧ bOf (u (dstCg i)) < w.heap.size
  dj : ∀ i j, i < 14 → j < 14 → grp i ≠ 0 → grp j ≠ 0 → grp i ≠ grp j → l.getD i false = true → l.getD j false = true → bOf (u (dstCg i)) ≠ bOf (u (dstCg j))
  late : l.getD 14 false = false
  join : l.getD 12 false = true → l.getD 3 false = true ∧ l.getD 7 false = true

variable {w0 : World} {n0 P : Nat} {r m : Value} {G : Gr} {l : Array Bool} {u : Nat → Value} {w : World}

theorem IC.step (h : IC w0 n0 P r m G l u w) {k : Nat} (hk : k < 14) (hlk : l.getD k false = false) {v : Value} {w' : World} (hb : Below w.heap.size w w') (hv : FCg n0 P r m G k v w')
    (ha : k = 12 → v = gv (.slice none 0 0) (u 9) (u 13) G.next G.seed ∧ l.getD 3 false = true ∧ l.getD 7 false = true)
    (hg : grp k ≠ 0 → n0 ≤ bOf v ∧ bOf v < w'.heap.size ∧ (w.heap.size ≤ bOf v ∨ ∃ i, i < 14 ∧ grp i = grp k ∧ l.getD i false = true ∧ bOf v = bOf (u (dstCg i)))) :
    IC w0 n0 P r m G (l.setIfInBounds k true) (upd u (dstCg k) v) w' := by
  have ne : ∀ j, j < 14 → j ≠ k → upd u (dstCg k) v (dstCg j) = u (dstCg j) := fun j hj e => by
    have : ¬ dstCg j = dstCg k := fun e' => e (dstC_inj k hk j hj e')
    simp only [upd, this, if_false]
  have eq : upd u (dstCg k) v (dstCg k) = v := by simp [upd]
  have lo : ∀ j, j ≠ k → (l.setIfInBounds k true).getD j false = l.getD j false := fun j e => getD_other l (Ne.symm e)
  refine ⟨h.below.trans (hb.mono h.below.size), facts_put (dst := dstCg) (dstC_inj k hk) h.fact (fun j _ _ _ t => FC_below hb j t) hv, fun h12 => ?_, fun i hi hgi hli => ?_, fun i j hi hj hgi hgj hne hli hlj => ?_, ?_, fun h12 => ?_⟩
  · by_cases e : k = 12
    · subst e
      have := (ha rfl).1
      have e1 := eq
      have e2 := ne 3 (by omega) (by omega)
      have e3 := ne 7 (by omega) (by omega)
      show upd u (dstCg 12) v (dstCg 12) = gv _ (upd u (dstCg 12) v (dstCg 3)) (upd u (dstCg 12) v (dstCg 7)) _ _
      rw [e1, e2, e3]
      exact this
    · rw [lo 12 (Ne.symm e)] at h12
      obtain ⟨j3, j7⟩ := h.join h12
      have k3 : k ≠ 3 := fun e' => by rw [e', j3] at hlk; cases hlk
      have k7 : k ≠ 7 := fun e' => by rw [e', j7] at hlk; cases hlk
      have := h.agg h12
      show upd u (dstCg k) v (dstCg 12) = gv _ (upd u (dstCg k) v (dstCg 3)) (upd u (dstCg k) v (dstCg 7)) _ _
      rw [ne 12 (by omega) (Ne.symm e), ne 3 (by omega) (Ne.symm k3), ne 7 (by omega) (Ne.symm k7)]
      exact this
  · by_cases e : i = k
    · subst e
      rw [eq]
      exact ⟨(hg hgi).1, (hg hgi).2.1⟩
    · rw [lo i e] at hli
      rw [ne i hi e]
      have := h.lt i hi hgi hli
      exact ⟨this.1, Nat.lt_of_lt_of_le this.2 hb.size⟩
  · by_cases e : i = k
    · subst e
      have e' : j ≠ i := fun e' => hne (by rw [e'])
      rw [lo j e'] at hlj
      rw [eq, ne j hj e']
      rcases (hg hgi).2.2 with h1 | ⟨i', hi', hgi', hli', h1⟩
      · have := (h.lt j hj hgj hlj).2
        omega
      · rw [h1]
        exact h.dj i' j hi' hj (by rw [hgi']; exact hgi) hgj (by rw [hgi']; exact hne) hli' hlj
    · rw [lo i e] at hli
      rw [ne i hi e]
      by_cases e' : j = k
      · subst e'
        rw [eq]
        rcases (hg hgj).2.2 with h1 | ⟨i', hi', hgi', hli', h1⟩
        · have := (h.lt i hi hgi hli).2
          omega
        · rw [h1]
          exact h.dj i i' hi hi' hgi (by rw [hgi']; exact hgj) (by rw [hgi']; exact hne) hli hli'
      · rw [lo j e'] at hlj
        rw [ne j hj e']
        exact h.dj i j hi hj hgi hgj hne hli hlj
  · rw [lo 14 (by omega)]
    exact h.late
  · by_cases e : k = 12
    · obtain ⟨_, j3, j7⟩ := ha e
      rw [lo 3 (by omega), lo 7 (by omega)]
      exact ⟨j3, j7⟩
    · rw [lo 12 (Ne.symm e)] at h12
      obtain ⟨j3, j7⟩ := h.join h12
      have k3 : k ≠ 3 := fun e' => by rw [e', j3] at hlk; cases hlk
      have k7 : k ≠ 7 := fun e' => by rw [e', j7] at hlk; cases hlk
      rw [lo 3 (Ne.symm k3), lo 7 (Ne.symm k7)]
      exact ⟨j3, j7⟩
/-- An operation that makes no list. -/
theorem IC.plain (h : IC w0 n0 P r m G l u w) {k : Nat} (hk : k < 14) (hlk : l.getD k false = false) (h12 : k ≠ 12) (hg0 : grp k = 0) {v : Value} (hv : FCg n0 P r m G k v w) :
    IC w0 n0 P r m G (l.setIfInBounds k true) (upd u (dstCg k) v) w := h.step hk hlk (Below.refl _ _) hv (fun e => absurd e h12) (fun e => absurd hg0 e)

theorem run_nil0 (w : World) : (Instr.buildSlice 30 0 #[]).run Try.prog w = .ok (.slice (some ⟨w.heap.size, 0, none⟩) 0 0) (w.alloc (.cells #[] 80)) := by
  go_simp
theorem run_fa (b k : Nat) (hk : k < 5) (w : World) : (Instr.fieldAt 32 (.pointer (some ⟨b, 0, none⟩)) k).run Try.prog w = .ok (.pointer (some ⟨b, k, none⟩)) w := by
  rcases (show k = 0 ∨ k = 1 ∨ k = 2 ∨ k = 3 ∨ k = 4 by omega) with rfl | rfl | rfl | rfl | rfl <;> go_simp
end Go.Proofs.Ytfajnnibkcnkaal.gr
namespace Go.Proofs.Ytfajnnibkcnkaal.gr
open Go.RowKit rows heads region
set_option maxRecDepth 100000

theorem run_ldS3 (b k : Nat) (w : World) {a : Option Addr} {n c : Nat} (h : w.cell? ⟨b, k, none⟩ = some (.slice a n c)) : (Instr.loadAt 30 (.pointer (some ⟨b, k, none⟩))).run Try.prog w = .ok (.slice a n c) w := by
  go_simp
theorem run_ldI3 (b k : Nat) (w : World) {x : Int} (h : w.cell? ⟨b, k, none⟩ = some (.int .i64 x)) : (Instr.loadAt 2 (.pointer (some ⟨b, k, none⟩))).run Try.prog w = .ok (.int .i64 x) w := by
  go_simp
theorem run_mkG (a1 a2 : Option Addr) (n1 c1 n2 c2 : Nat) (x y : Int) (w : World) : (Instr.build 32 #[(1, .slice a1 n1 c1), (2, .slice a2 n2 c2), (3, .int .i64 x), (4, .int .i64 y)]).run Try.prog w = .ok (gv (.slice none 0 0) (.slice a1 n1 c1) (.slice a2 n2 c2) x y) w := by
  go_simp
theorem run_alG (w : World) : (Instr.alloc 32 true (.tuple #[])).run Try.prog w = .ok (.pointer (some ⟨w.heap.size, 0, none⟩)) (w.alloc (gb (.slice none 0 0) (.slice none 0 0) (.slice none 0 0) 0 0)) := by
  go_simp
theorem run_stG {w : World} {b : Nat} {c0 c1 c2 c3 c4 : Value} (h : Five w b 32 c0 c1 c2 c3 c4) (a1 a2 : Option Addr) (n1 k1 n2 k2 : Nat) (x y : Int) : (Instr.storeAt 32 (.pointer (some ⟨b, 0, none⟩)) (gv (.slice none 0 0) (.slice a1 n1 k1) (.slice a2 n2 k2) x y)).run Try.prog w = .ok () (((((w.setCell ⟨b, 0, none⟩ (.slice none 0 0)).setCell ⟨b, 1, none⟩ (.slice a1 n1 k1)).setCell ⟨b, 2, none⟩ (.slice a2 n2 k2)).setCell ⟨b, 3, none⟩ (.int .i64 x)).setCell ⟨b, 4, none⟩ (.int .i64 y)) := by
  obtain ⟨z0, z1, z2, z3, z4, zf⟩ := five_cells h
  have f0 := zf 0
  have f1 := zf 1
  have f2 := zf 2
  have f3 := zf 3
  have f4 := zf 4
  clear h zf
  go_simp

theorem wp_skip {P : Program} {o : Oper} {a : Act} {w w' : World} {K : Act → World → Prop} {Q : Exit → Act → World → Prop} (h : (execOp a.eval o).run P w = .ok .skip w') (hk : K (a.put o.dst undef) w') : o.wp P a w K Q := by
  unfold Oper.wp
  rw [h]
  exact hk

set_option maxHeartbeats 4000000 in
theorem regC {id : Nat} {ops : Array Oper} {a0 : Act} {Q : Exit → Act → World → Prop} {w : World} {n0 P : Nat} {o : Value} {a2 a3 : Option Addr} {n2 c2 n3 c3 : Nat} {G : Gr} (hg : ∀ o ∈ ops, o.guard = none) (hacyc : ∀ (k : Nat) (o : Oper), ops[k]? = some o → ∀ e ∈ o.after, e.on < k) (hn : ops.size = 15)
    (h0 : Has ops 0 (some 6) (.buildSlice 30 0 #[]) [])
    (h1 : Has ops 1 (some 7) (.fieldAddr 32 (.tmp 1) 1) [])
    (h2 : Has ops 2 (some 8) (.load 30 (.tmp 7)) [1])
    (h3 : Has ops 3 (some 9) (.call { callee := .builtin .append, args := #[.tmp 6, .tmp 8], argTypes := #[30, 30] }) [0, 2])
    (h4 : Has ops 4 (some 10) (.buildSlice 30 0 #[]) [])
    (h5 : Has ops 5 (some 11) (.fieldAddr 32 (.tmp 1) 2) [])
    (h6 : Has ops 6 (some 12) (.load 30 (.tmp 11)) [5])
    (h7 : Has ops 7 (some 13) (.call { callee := .builtin .append, args := #[.tmp 10, .tmp 12], argTypes := #[30, 30] }) [4, 6])
    (h8 : Has ops 8 (some 14) (.fieldAddr 32 (.tmp 1) 3) [])
    (h9 : Has ops 9 (some 15) (.load 2 (.tmp 14)) [8])
    (h10 : Has ops 10 (some 16) (.fieldAddr 32 (.tmp 1) 4) [])
    (h11 : Has ops 11 (some 17) (.load 2 (.tmp 16)) [10])
    (h12 : Has ops 12 (some 18) (.build 32 #[(1, .tmp 9), (2, .tmp 13), (3, .tmp 15), (4, .tmp 17)]) [3, 7, 9, 11])
    (h13 : Has ops 13 (some 3) (.alloc 32) [])
    (h14 : Has ops 14 none (.store 32 (.tmp 3) (.tmp 18)) [0, 1, 2, 3, 4, 5, 6, 7, 8, 9, 10, 11, 12, 13])
    (sz : 18 < a0.tmps.size) (e1 : a0.tmps.getD 1 undef = .pointer (some ⟨P, 0, none⟩))
    (TP : Five w P 32 o (.slice a2 n2 c2) (.slice a3 n3 c3) (.int .i64 G.next) (.int .i64 G.seed)) (hR : RefsAt w (.slice a2 n2 c2) G.roots) (hM : RefsAt w (.slice a3 n3 c3) G.mourned) (l2 : n2 ≤ 1048576) (l3 : n3 ≤ 1048576) (hn0 : n0 = w.heap.size)
    (fin : ∀ u w', DoneC n0 G (u 3) w' → Below w.heap.size w w' → Q .normal (ovr DCg a0 u) w') :
    (Code.region id ops true).wp Try.prog Q a0 w := by
  have hlR := (refs_len hR).1
  have hlM := (refs_len hM).1
  refine wp_region_facts (by kernel_rfl) DCg hg hacyc (fun l u w' => IC w.drew n0 P (.slice a2 n2 c2) (.slice a3 n3 c3) G l u w' ∨ ((∀ k, k < 15 → l.getD k false = true) ∧ DoneC n0 G (u 3) w' ∧ Below w.heap.size w w')) (.inl ?_) ?_ ?_
  · refine ⟨Below.refl _ _, fun k hk h => ?_, fun h => ?_, fun i hi _ h => ?_, fun i j hi _ _ _ _ h => ?_, ?_, fun h => ?_⟩
    · rw [hn] at h; simp [Array.getD, show k < 15 by omega] at h
    · rw [hn] at h; simp [Array.getD] at h
    · rw [hn] at h; simp [Array.getD, show i < 15 by omega] at h
    · rw [hn] at h; simp [Array.getD, show i < 15 by omega] at h
    · rw [hn]; decide
    · rw [hn] at h; simp [Array.getD] at h
  · rintro l u w' (I | ⟨_, h, hb⟩) hall
    · have := hall 14 (by omega)
      rw [I.late] at this
      cases this
    · exact fin u w' h hb
  · rintro l u X k oo (I | ⟨hall, _, _⟩) hl hlk ho hd
    case inr =>
      have hk : k < 15 := by rw [← hn]; exact (Array.getElem?_eq_some_iff.1 ho).1
      rw [hall k hk] at hlk
      cases hlk
    rw [hn] at hl
    have hk : k < 15 := by rw [← hn]; exact (Array.getElem?_eq_some_iff.1 ho).1
    have BX : Below w.heap.size w X := ⟨I.below.os, I.below.tape, I.below.output, I.below.size, I.below.block⟩
    have sX : n0 ≤ X.heap.size := Nat.le_trans (Nat.le_of_eq hn0) BX.size
    have TX := five_below TP BX
    obtain ⟨_, t1, t2, t3, t4, _⟩ := five_cells TX
    have x1 := (eval_out (D := DCg) (a0 := a0) (u := u) (s := 1) rfl (by omega)).trans e1
    have ev : ∀ s, DCg s = true → s < 19 → (ovr DCg a0 u).eval (.tmp s) = u s := fun s h1 h2 => eval_in h1 (by omega)
    rcases (show k = 0 ∨ k = 1 ∨ k = 2 ∨ k = 3 ∨ k = 4 ∨ k = 5 ∨ k = 6 ∨ k = 7 ∨ k = 8 ∨ k = 9 ∨ k = 10 ∨ k = 11 ∨ k = 12 ∨ k = 13 ∨ k = 14 by omega) with rfl | rfl | rfl | rfl | rfl | rfl | rfl | rfl | rfl | rfl | rfl | rfl | rfl | rfl | rfl
    · obtain ⟨d, op, dep⟩ := has_at h0 ho hd
      exact wp_value (by simp [execOp, op, run_nil0, Result.andThen]) ⟨_, put_in d rfl u _, .inl (I.step (k := 0) (by omega) hlk ((Below.refl _ X).alloc (Nat.le_refl _) _) ⟨X.heap.size, rfl, heap_alloc_new X _⟩ (fun e => by cases e) (fun _ => ⟨sX, by simp [bOf], .inl (Nat.le_refl _)⟩))⟩
    · obtain ⟨d, op, dep⟩ := has_at h1 ho hd
      exact wp_value (w' := X) (by simp [execOp, op, x1, run_fa P 1 (by omega), Result.andThen]) ⟨_, put_in d rfl u _, .inl (I.plain (k := 1) (by omega) hlk (by omega) rfl rfl)⟩
    · obtain ⟨d, op, dep⟩ := has_at h2 ho hd
      have x := (ev 7 rfl (by omega)).trans (I.fact 1 (by omega) (dep 1 (by simp)))
      exact wp_value (w' := X) (by simp [execOp, op, x, run_ldS3 P 1 X t1, Result.andThen]) ⟨_, put_in d rfl u _, .inl (I.plain (k := 2) (by omega) hlk (by omega) rfl rfl)⟩
    · obtain ⟨d, op, dep⟩ := has_at h3 ho hd
      obtain ⟨g, g1, g2⟩ := I.fact 0 (by omega) (dep 0 (by simp))
      have x := (ev 6 rfl (by omega)).trans g1
      have y := (ev 8 rfl (by omega)).trans (I.fact 2 (by omega) (dep 2 (by simp)))
      obtain ⟨q, c, w', hr, hq, hO, hb⟩ := run_app0 (refsAt_below hR BX) l2 g2 oo.type
      have gl := I.lt 0 (by omega) (by decide) (dep 0 (by simp))
      have eg : bOf (u (dstCg 0)) = g := by show bOf (u 6) = g; rw [show u 6 = _ from g1]; rfl
      rw [eg] at gl
      have hq0 : n0 ≤ q := by rcases hq with rfl | hq <;> omega
      have hqs : q < w'.heap.size := by
        have := hO 0 (Nat.zero_le _)
        exact (World.ownsRow.lt this q rfl).2
      refine wp_value (v := .slice (some ⟨q, 0, none⟩) n2 c) (w' := w') (by simp [execOp, op, resolve, invoke, builtin, x, y, hr, Result.andThen]) ⟨_, put_in d rfl u _, .inl (I.step (k := 3) (by omega) hlk hb ⟨q, c, hq0, by rw [hlR], hO n0 hq0⟩ (fun e => by cases e) (fun _ => ⟨hq0, hqs, ?_⟩))⟩
      rcases hq with rfl | hq
      · exact .inr ⟨0, by omega, rfl, dep 0 (by simp), eg.symm⟩
      · exact .inl hq
    · obtain ⟨d, op, dep⟩ := has_at h4 ho hd
      exact wp_value (by simp [execOp, op, run_nil0, Result.andThen]) ⟨_, put_in d rfl u _, .inl (I.step (k := 4) (by omega) hlk ((Below.refl _ X).alloc (Nat.le_refl _) _) ⟨X.heap.size, rfl, heap_alloc_new X _⟩ (fun e => by cases e) (fun _ => ⟨sX, by simp [bOf], .inl (Nat.le_refl _)⟩))⟩
    · obtain ⟨d, op, dep⟩ := has_at h5 ho hd
      exact wp_value (w' := X) (by simp [execOp, op, x1, run_fa P 2 (by omega), Result.andThen]) ⟨_, put_in d rfl u _, .inl (I.plain (k := 5) (by omega) hlk (by omega) rfl rfl)⟩
    · obtain ⟨d, op, dep⟩ := has_at h6 ho hd
      have x := (ev 11 rfl (by omega)).trans (I.fact 5 (by omega) (dep 5 (by simp)))
      exact wp_value (w' := X) (by simp [execOp, op, x, run_ldS3 P 2 X t2, Result.andThen]) ⟨_, put_in d rfl u _, .inl (I.plain (k := 6) (by omega) hlk (by omega) rfl rfl)⟩
    · obtain ⟨d, op, dep⟩ := has_at h7 ho hd
      obtain ⟨g, g1, g2⟩ := I.fact 4 (by omega) (dep 4 (by simp))
      have x := (ev 10 rfl (by omega)).trans g1
      have y := (ev 12 rfl (by omega)).trans (I.fact 6 (by omega) (dep 6 (by simp)))
      obtain ⟨q, c, w', hr, hq, hO, hb⟩ := run_app0 (refsAt_below hM BX) l3 g2 oo.type
      have gl := I.lt 4 (by omega) (by decide) (dep 4 (by simp))
      have eg : bOf (u (dstCg 4)) = g := by show bOf (u 10) = g; rw [show u 10 = _ from g1]; rfl
      rw [eg] at gl
      have hq0 : n0 ≤ q := by rcases hq with rfl | hq <;> omega
      have hqs : q < w'.heap.size := by
        have := hO 0 (Nat.zero_le _)
        exact (World.ownsRow.lt this q rfl).2
      refine wp_value (v := .slice (some ⟨q, 0, none⟩) n3 c) (w' := w') (by simp [execOp, op, resolve, invoke, builtin, x, y, hr, Result.andThen]) ⟨_, put_in d rfl u _, .inl (I.step (k := 7) (by omega) hlk hb ⟨q, c, hq0, by rw [hlM], hO n0 hq0⟩ (fun e => by cases e) (fun _ => ⟨hq0, hqs, ?_⟩))⟩
      rcases hq with rfl | hq
      · exact .inr ⟨4, by omega, rfl, dep 4 (by simp), eg.symm⟩
      · exact .inl hq
    · obtain ⟨d, op, dep⟩ := has_at h8 ho hd
      exact wp_value (w' := X) (by simp [execOp, op, x1, run_fa P 3 (by omega), Result.andThen]) ⟨_, put_in d rfl u _, .inl (I.plain (k := 8) (by omega) hlk (by omega) rfl rfl)⟩
    · obtain ⟨d, op, dep⟩ := has_at h9 ho hd
      have x := (ev 14 rfl (by omega)).trans (I.fact 8 (by omega) (dep 8 (by simp)))
      exact wp_value (w' := X) (by simp [execOp, op, x, run_ldI3 P 3 X t3, Result.andThen]) ⟨_, put_in d rfl u _, .inl (I.plain (k := 9) (by omega) hlk (by omega) rfl rfl)⟩
    · obtain ⟨d, op, dep⟩ := has_at h10 ho hd
      exact wp_value (w' := X) (by simp [execOp, op, x1, run_fa P 4 (by omega), Result.andThen]) ⟨_, put_in d rfl u _, .inl (I.plain (k := 10) (by omega) hlk (by omega) rfl rfl)⟩
    · obtain ⟨d, op, dep⟩ := has_at h11 ho hd
      have x := (ev 16 rfl (by omega)).trans (I.fact 10 (by omega) (dep 10 (by simp)))
      exact wp_value (w' := X) (by simp [execOp, op, x, run_ldI3 P 4 X t4, Result.andThen]) ⟨_, put_in d rfl u _, .inl (I.plain (k := 11) (by omega) hlk (by omega) rfl rfl)⟩
    · obtain ⟨d, op, dep⟩ := has_at h12 ho hd
      obtain ⟨q, c, _, y1, _⟩ := I.fact 3 (by omega) (dep 3 (by simp))
      obtain ⟨q', c', _, y2, _⟩ := I.fact 7 (by omega) (dep 7 (by simp))
      have z1 := (ev 9 rfl (by omega)).trans y1
      have z2 := (ev 13 rfl (by omega)).trans y2
      have z3 := (ev 15 rfl (by omega)).trans (I.fact 9 (by omega) (dep 9 (by simp)))
      have z4 := (ev 17 rfl (by omega)).trans (I.fact 11 (by omega) (dep 11 (by simp)))
      have hr := run_mkG (some ⟨q, 0, none⟩) (some ⟨q', 0, none⟩) G.roots.length c G.mourned.length c' G.next G.seed X
      refine wp_value (w' := X) (v := gv (.slice none 0 0) (.slice (some ⟨q, 0, none⟩) G.roots.length c) (.slice (some ⟨q', 0, none⟩) G.mourned.length c') G.next G.seed) (by simp [execOp, op, z1, z2, z3, z4, hr, Result.andThen]) ⟨_, put_in d rfl u _, .inl (I.step (k := 12) (by omega) hlk (Below.refl _ _) trivial (fun _ => ⟨?_, dep 3 (by simp), dep 7 (by simp)⟩) (fun e => absurd rfl e))⟩
      rw [show u 9 = _ from y1, show u 13 = _ from y2]
    · obtain ⟨d, op, dep⟩ := has_at h13 ho hd
      exact wp_value (by simp [execOp, op, run_alG, Result.andThen]) ⟨_, put_in d rfl u _, .inl (I.step (k := 13) (by omega) hlk ((Below.refl _ X).alloc (Nat.le_refl _) _) ⟨X.heap.size, sX, rfl, five_new X _ _ _ _ _ _⟩ (fun e => by cases e) (fun _ => ⟨sX, by simp [bOf], .inl (Nat.le_refl _)⟩))⟩
    · obtain ⟨d, op, dep⟩ := has_at h14 ho hd
      have al : ∀ j, j < 14 → l.getD j false = true := fun j hj => dep j (by
        rcases (show j = 0 ∨ j = 1 ∨ j = 2 ∨ j = 3 ∨ j = 4 ∨ j = 5 ∨ j = 6 ∨ j = 7 ∨ j = 8 ∨ j = 9 ∨ j = 10 ∨ j = 11 ∨ j = 12 ∨ j = 13 by omega) with rfl | rfl | rfl | rfl | rfl | rfl | rfl | rfl | rfl | rfl | rfl | rfl | rfl | rfl <;> decide)
      obtain ⟨q, c, hq, y1, O1⟩ := I.fact 3 (by omega) (al 3 (by omega))
      obtain ⟨q', c', hq', y2, O2⟩ := I.fact 7 (by omega) (al 7 (by omega))
      obtain ⟨B, hB, y3, TB⟩ := I.fact 13 (by omega) (al 13 (by omega))
      have ag := I.agg (al 12 (by omega))
      have d37 := I.dj 3 7 (by omega) (by omega) (by decide) (by decide) (by decide) (al 3 (by omega)) (al 7 (by omega))
      have d3B := I.dj 13 3 (by omega) (by omega) (by decide) (by decide) (by decide) (al 13 (by omega)) (al 3 (by omega))
      have d7B := I.dj 13 7 (by omega) (by omega) (by decide) (by decide) (by decide) (al 13 (by omega)) (al 7 (by omega))
      have y1' : u 9 = .slice (some ⟨q, 0, none⟩) G.roots.length c := y1
      have y2' : u 13 = .slice (some ⟨q', 0, none⟩) G.mourned.length c' := y2
      have y3' : u 3 = .pointer (some ⟨B, 0, none⟩) := y3
      have b1 : bOf (u (dstCg 3)) = q := by show bOf (u 9) = q; rw [y1']; rfl
      have b2 : bOf (u (dstCg 7)) = q' := by show bOf (u 13) = q'; rw [y2']; rfl
      have b3 : bOf (u (dstCg 13)) = B := by show bOf (u 3) = B; rw [y3']; rfl
      rw [b1, b2] at d37
      rw [b3, b1] at d3B
      rw [b3, b2] at d7B
      rw [y1', y2'] at ag
      have OR : OwnR X n0 (.slice (some ⟨q, 0, none⟩) G.roots.length c) G.roots := by rw [← y1']; exact O1
      have OM : OwnR X n0 (.slice (some ⟨q', 0, none⟩) G.mourned.length c') G.mourned := by rw [← y2']; exact O2
      have z1 := (ev 3 rfl (by omega)).trans y3'
      have z2 := (ev 18 rfl (by omega)).trans ag
      have hr := run_stG TB (some ⟨q, 0, none⟩) (some ⟨q', 0, none⟩) G.roots.length c G.mourned.length c' G.next G.seed
      have CH := five_other (X := X) (b := B) (.slice none 0 0) (.slice (some ⟨q, 0, none⟩) G.roots.length c) (.slice (some ⟨q', 0, none⟩) G.mourned.length c') (.int .i64 G.next) (.int .i64 G.seed)
      refine wp_skip (by simp [execOp, op, z1, z2, hr, Result.andThen]) ⟨u, put_no d u _, .inr ⟨fun j hj => ?_, ⟨B, q, c, q', c', y3', hB, hq, hq', d3B, d7B, d37, five_sets TB _ _ _ _ _, row_ch OR CH (fun k hk e => ?_), row_ch OM CH (fun k hk e => ?_)⟩, five_belows BX (by omega) _ _ _ _ _⟩⟩
      · by_cases e : j = 14
        · subst e; exact listed_ne (by omega)
        · rw [getD_other l (Ne.symm e)]; exact al j (by omega)
      · simp only [blk, Value.ownBlock, Option.toList, List.mem_singleton] at hk e
        exact d3B (e.symm.trans hk)
      · simp only [blk, Value.ownBlock, Option.toList, List.mem_singleton] at hk e
        exact d7B (e.symm.trans hk)
end Go.Proofs.Ytfajnnibkcnkaal.gr
