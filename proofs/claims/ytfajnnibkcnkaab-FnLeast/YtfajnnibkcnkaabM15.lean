/-
  What the laws' has and rises answer, and the graph that is drawn. slices.SortFunc over numbers, laid over the program: which function and type of the library's own text is which one here. Chapter 7 as the program has it: how two that grieve are held against each other. A region that draws its order, by an invariant of what has come up, of the frame and of the world: each operation that may come up keeps it, in whatever order; no branching. A region that draws its order, by facts: what is known of the slot of each operation that has come up, and of the world.
-/
import Derived.Test.YtfajnnibkcnkaabM8
import Derived.Test.YtfajnnibkcnkaabM13
import Derived.Test.YtfajnnibkcnkaabM14
import Derived.Test.YtfajnnibkcnkaabRows
import Derived.WalkKit
import Derived.Shelf.SlSortCmp.NoneTotal
import Derived.Test.YtfajnnibkcnkaabM12
import Derived.Test.YtfajnnibkcnkaabProg
import Derived.Orders
import Derived.Deep.Quiet
namespace Go.Proofs.Ytfajnnibkcnkaab.gr
open Go.RowKit rows heads draw
set_option maxRecDepth 100000
set_option linter.unusedVariables false

set_option maxHeartbeats 4000000 in
theorem has_any {w : World} {v : Value} {xs : List Int} (h : IntsAt w v xs) (hl : xs.length ≤ 1048576) (n : Int) :
    Calls Try.prog 50 #[v, .int .i64 n] w fun e w' => e = .returned (.bool (decide (n ∈ xs))) ∧ w' = w := by
  obtain ⟨a, cap, rfl, hlc, hcm, _, hc⟩ := h
  have HC : Hid _ := hc
  obtain ⟨RV, hRV⟩ : ∃ RV, decide (n ∈ xs) = RV := ⟨_, rfl⟩
  rw [hRV]
  have HRV : Hid _ := hRV
  clear hc hRV
  go_enter Try.func50, Try.ntmps50
  go_wp2_with fail
  go_loopw [5] (fun p wr => ∃ k : Nat, k ≤ xs.length ∧ p = .int .i64 k ∧ (∀ j, j < k → ¬ xs.getD j 0 = n) ∧ wr = w) (fun p _ => xs.length - (intOf p).toNat)
  case atStart => exact ⟨0, Nat.zero_le _, rfl, fun j hj => by omega, rfl⟩
  case round =>
    obtain ⟨k, hk, rfl, hne, hw⟩ := hrel
    subst hw
    by_cases hlt : k < xs.length
    · obtain ⟨b, off, rfl, hb, hcc⟩ := HC.out (by omega)
      have c0 := hcc k hlt
      have hget : xs.getD k 0 ∈ xs := by
        rw [List.getD_eq_getElem?_getD, List.getElem?_eq_getElem hlt]
        exact List.getElem_mem hlt
      by_cases hy : xs.getD k 0 = n
      · have HV : Hid (RV = true) := by show _ = _; rw [← HRV.out, decide_eq_true_eq, ← hy]; exact hget
        have hy' : (xs.getD k 0 == n) = true := by simpa using hy
        clear hcc HC hne hget hy
        generalize xs.getD k 0 = y at *
        go_wp2
        go_ret
        exact ⟨by rw [HV.out]; rfl, rfl⟩
      · have HV : Hid (∀ j, j < k + 1 → ¬ xs.getD j 0 = n) := fun j hj => by
          by_cases e : j = k
          · rw [e]; exact hy
          · exact hne j (by omega)
        have hy' : (xs.getD k 0 == n) = false := by simpa using hy
        clear hcc HC hne hget hy
        generalize xs.getD k 0 = y at *
        go_wp2
        exact ⟨⟨k + 1, by omega, by go_num, HV, by trivial⟩, by simp [intOf]; omega⟩
    · have HV : Hid (RV = false) := by
        show _ = _
        rw [← HRV.out, decide_eq_false_iff_not]
        intro hm
        obtain ⟨i, hi, e⟩ := List.getElem_of_mem hm
        refine hne i (by omega) ?_
        rw [List.getD_eq_getElem?_getD, List.getElem?_eq_getElem hi]
        exact e
      clear HC hne HRV
      go_wp2
      go_ret
      exact ⟨by rw [HV.out]; rfl, rfl⟩


set_option maxHeartbeats 4000000 in
theorem rises_any {w : World} {v : Value} {xs : List Int} (h : IntsAt w v xs) (hl : xs.length ≤ 1048576) (hr : ∀ i, 0 < i → i < xs.length → ¬ xs.getD i 0 ≤ xs.getD (i - 1) 0) :
    Calls Try.prog 49 #[v] w fun e w' => e = .returned (.bool true) ∧ ∃ n, w' = w.drewN n := by
  obtain ⟨a, cap, rfl, hlc, hcm, _, hc⟩ := h
  have HC : Hid _ := hc
  have HR : Hid _ := hr
  clear hc hr
  go_enter Try.func49, Try.ntmps49
  go_wp2_with fail
  go_loopw [3] (fun i wr => ∃ k n : Nat, 0 < k ∧ i = .int .i64 (k : Int) ∧ wr = w.drewN n) (fun i _ => xs.length - (intOf i).toNat)
  case atStart => exact ⟨1, 0, by decide, rfl, rfl⟩
  case round =>
    obtain ⟨k, n, hk, rfl, rfl⟩ := hrel
    by_cases hlt : k < xs.length
    · have hlt' : (k : Int) < (xs.length : Int) := by omega
      obtain ⟨b, off, rfl, hb, hcc⟩ := HC.out (by omega)
      have c0 := hcc k hlt
      have c1 := hcc (k - 1) (by omega)
      have hn := HR.out k hk hlt
      have e1 : ((k : Int) - 1).toNat = k - 1 := by omega
      have e2 : k - 1 < xs.length := by omega
      have e3 : (0 : Int) ≤ (k : Int) - 1 := by omega
      have e4 : (k : Int) - 1 < (xs.length : Int) := by omega
      clear hcc
      generalize xs.getD k 0 = x at *
      generalize xs.getD (k - 1) 0 = y at *
      go_wp2
      go_quiet (fail)
      go_wp2
      exact ⟨⟨k + 1, n + nq, by omega, by go_num, rfl⟩, by simp [intOf]; omega⟩
    · have hlt' : ¬ (k : Int) < (xs.length : Int) := by omega
      clear HC
      go_wp2
      go_ret
      exact ⟨rfl, _, rfl⟩

theorem gkeep_more {w w' : World} {b c d : Nat} {o r m : Value} {ms : List MO} {G : Gr} (h : GKeep w c o r m ms G) (hc : Ch [b] w w') (hb : b < c) (hd : d ≤ c) : GKeep w' d o r m ms G := fun V S cS hS =>
  h V (b :: S) ⟨cS.os.trans hc.os, cS.tape.trans hc.tape, cS.output.trans hc.output, Nat.le_trans hc.size cS.size, fun k hk hn => (cS.block k (Nat.lt_of_lt_of_le hk hc.size) (fun e => hn (List.mem_cons_of_mem _ e))).trans (hc.block k hk (fun e => hn ((List.mem_singleton.1 e) ▸ List.mem_cons_self ..)))⟩ (fun k hk => by
    rcases List.mem_cons.1 hk with rfl | hk
    · exact hb
    · have := hS k hk; omega)
set_option maxHeartbeats 8000000 in
theorem dGraphOk_any {W w : World} {a : Option Addr} {len cap : Nat} {zs : List Int} (hr : IsRow .u8 W a len cap zs) (hW : Below W.heap.size W w) (hlen : len ≤ 4096) :
    Calls Try.prog 115 #[.slice a len cap] w fun e w' => ∃ (o r m : Value) (ms : List MO) (G : Gr), e = .returned (gv o r m G.next G.seed) ∧ GKeep w' w.heap.size o r m ms G ∧ gSize ms G ≤ 1048576 ∧ Below w.heap.size w w' := by
  have BZ : Below w.heap.size w (w.alloc (gb (.slice none 0 0) (.slice none 0 0) (.slice none 0 0) 0 0)) := (Below.refl _ w).alloc (Nat.le_refl _) _
  have s0 : (w.alloc (gb (.slice none 0 0) (.slice none 0 0) (.slice none 0 0) 0 0)).heap.size = w.heap.size + 1 := by simp
  have sWw := hW.size
  have NW := new_any hr (hW.trans (BZ.mono hW.size)) hlen
  rw [s0] at NW
  have T0 := five_new w 55 (.slice none 0 0) (.slice none 0 0) (.slice none 0 0) (.int .i64 0) (.int .i64 0)
  have HT0 : Hid _ := T0
  have HBZ : Hid _ := BZ
  clear T0 BZ s0
  go_enter Try.func115, Try.ntmps115
  go_wp2_with fail
  refine NW.mono ?_
  rintro e w1 ⟨rfl, c1, s1, b1⟩
  have B1 := HBZ.out.trans (b1.mono (by omega))
  have T1 := (b1.block w.heap.size (by omega)).trans HT0.out
  have step : ∀ {V : World}, Below w.heap.size w V → Below W.heap.size W V := fun h => hW.trans (h.mono hW.size)
  have DA := l6DrawAny_any hr (step B1) (show W.heap.size ≤ w.heap.size + 1 by omega) c1
  have HB1 : Hid _ := B1
  have HT1 : Hid _ := T1
  have s1' : w1.heap.size = w.heap.size + 2 := by omega
  have HS1 : Hid _ := s1'
  clear NW c1 b1 B1 T1 HT0 HBZ s1 s1'
  go_wp2_with fail
  refine DA.mono ?_
  rintro e w2 ⟨o, r, m, ms, G, rfl, K2, Z2, hg2, hc2⟩
  rw [HS1.out] at K2
  obtain ⟨a1, n1, c1, a2, n2, c2, a3, n3, c3, e1, e2, e3⟩ := graphAt_slices (K2 w2 [] (Ch.refl _ _) (fun k hk => by cases hk))
  subst e1 e2 e3
  have T2 := five_ch HT1.out (ch_cur hg2) (fun e => by rw [List.mem_singleton] at e; omega)
  have B2 := HB1.out.grown hg2 HB1.out.size (fun k e => by cases e; omega)
  obtain ⟨v0, v1, v2, v3, v4, vf⟩ := five_cells T2
  have g0 := vf 0
  have g1 := vf 1
  have g2 := vf 2
  have g3 := vf 3
  have g4 := vf 4
  have HTX : Hid _ := five_sets T2 (.slice a1 n1 c1) (.slice a2 n2 c2) (.slice a3 n3 c3) (.int .i64 G.next) (.int .i64 G.seed)
  have HBX : Hid _ := five_belows B2 (Nat.le_refl _) (.slice a1 n1 c1) (.slice a2 n2 c2) (.slice a3 n3 c3) (.int .i64 G.next) (.int .i64 G.seed)
  have HGA : Hid _ := gkeep_more (d := w.heap.size) K2 (five_other (X := w2) (b := w.heap.size) (.slice a1 n1 c1) (.slice a2 n2 c2) (.slice a3 n3 c3) (.int .i64 G.next) (.int .i64 G.seed)) (by omega) (show w.heap.size ≤ w.heap.size + 2 by omega)
  clear vf T2 B2 K2 hg2 hc2 HB1 HT1 HS1 DA
  go_wp2
  exact bodyPost_ret (res_gr rfl rfl HTX.out) rfl ⟨_, _, _, ms, G, rfl, HGA.out, Z2, HBX.out⟩

set_option maxHeartbeats 4000000 in
theorem dReached_any {W w : World} {a : Option Addr} {len cap : Nat} {zs : List Int} (hr : IsRow .u8 W a len cap zs) (hW : Below W.heap.size W w) (hlen : len ≤ 4096) :
    Calls Try.prog 44 #[.slice a len cap] w fun e w' => ∃ (o r m : Value) (ms : List MO) (G : Gr), e = .returned (gv o r m G.next G.seed) ∧ GKeep w' w.heap.size o r m ms G ∧ gSize ms G ≤ 1048576 ∧ Below w.heap.size w w' := by
  have BZ : Below w.heap.size w (w.alloc (gb (.slice none 0 0) (.slice none 0 0) (.slice none 0 0) 0 0)) := (Below.refl _ w).alloc (Nat.le_refl _) _
  have T0 := five_new w 55 (.slice none 0 0) (.slice none 0 0) (.slice none 0 0) (.int .i64 0) (.int .i64 0)
  have s0 : (w.alloc (gb (.slice none 0 0) (.slice none 0 0) (.slice none 0 0) 0 0)).heap.size = w.heap.size + 1 := by simp
  have DG := dGraphOk_any hr (hW.trans (BZ.mono hW.size)) hlen
  rw [s0] at DG
  have HT0 : Hid _ := T0
  have HBZ : Hid _ := BZ
  have HS0 : Hid _ := s0
  clear T0 BZ s0
  go_enter Try.func44, Try.ntmps44
  go_wp2_with fail
  refine DG.mono ?_
  rintro e w2 ⟨o, r, m, ms, G, rfl, K2, Z2, b2⟩
  obtain ⟨a1, n1, c1, a2, n2, c2, a3, n3, c3, e1, e2, e3⟩ := graphAt_slices (K2 w2 [] (Ch.refl _ _) (fun k hk => by cases hk))
  subst e1 e2 e3
  have T2 := (b2.block w.heap.size (by omega)).trans HT0.out
  have B2 := HBZ.out.trans (b2.mono (by omega))
  obtain ⟨v0, v1, v2, v3, v4, vf⟩ := five_cells T2
  have g0 := vf 0
  have g1 := vf 1
  have g2 := vf 2
  have g3 := vf 3
  have g4 := vf 4
  have HTX : Hid _ := five_sets T2 (.slice a1 n1 c1) (.slice a2 n2 c2) (.slice a3 n3 c3) (.int .i64 G.next) (.int .i64 G.seed)
  have HBX : Hid _ := five_belows B2 (Nat.le_refl _) (.slice a1 n1 c1) (.slice a2 n2 c2) (.slice a3 n3 c3) (.int .i64 G.next) (.int .i64 G.seed)
  have HGA : Hid _ := gkeep_more (d := w.heap.size) K2 (five_other (X := w2) (b := w.heap.size) (.slice a1 n1 c1) (.slice a2 n2 c2) (.slice a3 n3 c3) (.int .i64 G.next) (.int .i64 G.seed)) (by omega) (by omega)
  clear vf T2 B2 K2 b2 HBZ HT0 HS0 DG
  go_wp2
  exact bodyPost_ret (res_gr rfl rfl HTX.out) rfl ⟨_, _, _, ms, G, rfl, HGA.out, Z2, HBX.out⟩

end Go.Proofs.Ytfajnnibkcnkaab.gr
namespace Go.Proofs.Ytfajnnibkcnkaab.gr
open Go Go.RowKit Go.Shelf

def lsort_ren : Go.Shelf.Ren := ⟨fun | 6 => 150 | 15 => 175 | 14 => 174 | 28 => 194 | 29 => 195 | 20 => 186 | 21 => 187 | 22 => 188 | 23 => 189 | 24 => 190 | 25 => 191 | 26 => 192 | 27 => 193 | 46 => 198 | 47 => 199 | 48 => 200 | 49 => 201 | 50 => 202 | 57 => 203 | n => n, fun | 22 => 128 | 24 => 3 | 25 => 157 | 3 => 3 | 39 => 159 | 0 => 0 | 53 => 196 | 55 => 198 | 4 => 4 | 46 => 190 | 45 => 189 | 50 => 147 | 5 => 5 | 9 => 9 | 66 => 200 | 70 => 204 | 76 => 206 | 77 => 207 | n => n, fun | n => n⟩
theorem lsort : Go.Proofs.SlLaysF.n6 Try.prog lsort_ren := {
  mixed := by kernel_rfl
  f6 := ⟨Try.f150.name, by decide, Try.func150.trans (congrArg some (by kernel_rfl))⟩
  f14 := ⟨Try.f174.name, by decide, Try.func174.trans (congrArg some (by kernel_rfl))⟩
  f15 := Try.func175.trans (congrArg some (by kernel_rfl))
  f20 := ⟨Try.f186.name, by decide, Try.func186.trans (congrArg some (by kernel_rfl))⟩
  f21 := ⟨Try.f187.name, by decide, Try.func187.trans (congrArg some (by kernel_rfl))⟩
  f22 := ⟨Try.f188.name, by decide, Try.func188.trans (congrArg some (by kernel_rfl))⟩
  f23 := ⟨Try.f189.name, by decide, Try.func189.trans (congrArg some (by kernel_rfl))⟩
  f24 := ⟨Try.f190.name, by decide, Try.func190.trans (congrArg some (by kernel_rfl))⟩
  f25 := ⟨Try.f191.name, by decide, Try.func191.trans (congrArg some (by kernel_rfl))⟩
  f26 := ⟨Try.f192.name, by decide, Try.func192.trans (congrArg some (by kernel_rfl))⟩
  f27 := ⟨Try.f193.name, by decide, Try.func193.trans (congrArg some (by kernel_rfl))⟩
  f28 := Try.func194.trans (congrArg some (by kernel_rfl))
  f29 := Try.func195.trans (congrArg some (by kernel_rfl))
  f46 := ⟨Try.f198.name, by decide, Try.func198.trans (congrArg some (by kernel_rfl))⟩
  f47 := Try.func199.trans (congrArg some (by kernel_rfl))
  f48 := Try.func200.trans (congrArg some (by kernel_rfl))
  f49 := ⟨Try.f201.name, by decide, Try.func201.trans (congrArg some (by kernel_rfl))⟩
  f50 := ⟨Try.f202.name, by decide, Try.func202.trans (congrArg some (by kernel_rfl))⟩
  f57 := ⟨Try.f203.name, by decide, Try.func203.trans (congrArg some (by kernel_rfl))⟩
  t0 := Try.underlying0
  a0 := Try.isAgg0
  z0 := Try.sizeOf0
  v0 := Try.zeroValue0
  t3 := Try.underlying3
  a3 := Try.isAgg3
  z3 := Try.sizeOf3
  v3 := Try.zeroValue3
  t4 := Try.underlying4
  a4 := Try.isAgg4
  z4 := Try.sizeOf4
  v4 := Try.zeroValue4
  t5 := Try.underlying5
  a5 := Try.isAgg5
  z5 := Try.sizeOf5
  v5 := Try.zeroValue5
  t9 := Try.underlying9
  a9 := Try.isAgg9
  z9 := Try.sizeOf9
  v9 := Try.zeroValue9
  t22 := Try.underlying128
  a22 := Try.isAgg128
  z22 := Try.sizeOf128
  v22 := Try.zeroValue128
  a24 := Try.isAgg3
  z24 := Try.sizeOf3
  t25 := Try.underlying157
  a25 := Try.isAgg157
  z25 := Try.sizeOf157
  v25 := Try.zeroValue157
  t39 := Try.underlying159
  a39 := Try.isAgg159
  z39 := Try.sizeOf159
  v39 := Try.zeroValue159
  t45 := Try.underlying189
  a45 := Try.isAgg189
  z45 := Try.sizeOf189
  v45 := Try.zeroValue189
  t46 := Try.underlying190
  a46 := Try.isAgg190
  z46 := Try.sizeOf190
  v46 := Try.zeroValue190
  t50 := Try.underlying147
  a50 := Try.isAgg147
  z50 := Try.sizeOf147
  v50 := Try.zeroValue147
  t53 := Try.underlying196
  a53 := Try.isAgg196
  z53 := Try.sizeOf196
  v53 := Try.zeroValue196
  t55 := Try.underlying198
  a55 := Try.isAgg198
  z55 := Try.sizeOf198
  v55 := Try.zeroValue198
  t66 := Try.underlying200
  a66 := Try.isAgg200
  z66 := Try.sizeOf200
  v66 := Try.zeroValue200
  t70 := Try.underlying204
  a70 := Try.isAgg204
  z70 := Try.sizeOf204
  v70 := Try.zeroValue204
  t76 := Try.underlying206
  a76 := Try.isAgg206
  z76 := Try.sizeOf206
  v76 := Try.zeroValue206
  t77 := Try.underlying207
  a77 := Try.isAgg207
  z77 := Try.sizeOf207
  v77 := Try.zeroValue207 }
end Go.Proofs.Ytfajnnibkcnkaab.gr
namespace Go.Proofs.Ytfajnnibkcnkaab.gr
open Go.RowKit rows heads
set_option maxRecDepth 100000
set_option linter.unusedVariables false

def orI (u v : Int) : Int := if u = 0 then v else u
set_option maxHeartbeats 2000000 in
theorem or2_any {w : World} {b : Nat} {u v : Int} (h0 : w.cell? ⟨b, 0, none⟩ = some (.int .i64 u)) (h1 : w.cell? ⟨b, 1, none⟩ = some (.int .i64 v)) :
    Calls Try.prog 152 #[.slice (some ⟨b, 0, none⟩) 2 2] w fun e w' => e = .returned (.int .i64 (orI u v)) ∧ w' = w := by
  by_cases hu : u = 0
  · subst hu
    have ER : Hid (orI 0 v = v) := rfl
    by_cases hv : v = 0
    · subst hv
      go_enter Try.func152, Try.ntmps152
      go_wp2_with fail
      refine wp_loop_rounds 3 ?_
      rw [rounds_succ]
      go_wp2
      rw [rounds_succ]
      go_wp2
      rw [rounds_succ]
      go_wp2
      go_ret
      exact ⟨rfl, rfl⟩
    · have hv' : (v != 0) = true := by simpa using hv
      go_enter Try.func152, Try.ntmps152
      go_wp2_with fail
      refine wp_loop_rounds 2 ?_
      rw [rounds_succ]
      go_wp2
      rw [rounds_succ]
      go_wp2
      go_ret
      exact ⟨rfl, rfl⟩
  · have hu' : (u != 0) = true := by simpa using hu
    have ER : Hid (orI u v = u) := by show _ = _; unfold orI; rw [if_neg hu]
    go_enter Try.func152, Try.ntmps152
    go_wp2_with fail
    refine wp_loop_rounds 1 ?_
    rw [rounds_succ]
    go_wp2
    go_ret
    exact ⟨by rw [ER.out]; rfl, rfl⟩
end Go.Proofs.Ytfajnnibkcnkaab.gr
namespace Go.Proofs.Ytfajnnibkcnkaab.region
open Go

theorem count_set (l : Array Bool) (i : Nat) (h : l.getD i true = false) : (l.setIfInBounds i true).toList.count false + 1 = l.toList.count false := by
  have hi : i < l.size := by
    rcases Nat.lt_or_ge i l.size with h' | h'
    · exact h'
    · simp [Array.getD, Nat.not_lt.2 h'] at h
  have he : l.toList[i]'(by simpa using hi) = false := by
    simpa [Array.getD, hi] using h
  rw [Array.toList_setIfInBounds, List.count_set (by simpa using hi)]
  have hc : 0 < l.toList.count false := List.count_pos_iff.2 (by rw [← he]; exact List.getElem_mem _)
  simp [he]
  have hc' : 0 < l.count false := by simpa using hc
  omega

theorem wpAny_inv {P : Program} {md : Region.Mode} {ops : Array Oper} {Q : Exit → Act → World → Prop} (I : Array Bool → Act → World → Prop)
    (fin : ∀ l a w, I l a w → Region.ready md ops l = [] → Q .normal a w)
    (stp : ∀ l a w i, I l a w → i ∈ Region.ready md ops l → wpOp P ops Q i (I (l.setIfInBounds i true)) a w) :
    ∀ (fuel : Nat) (l : Array Bool) (a : Act) (w : World), l.toList.count false ≤ fuel → I l a w → wpAny P md ops Q fuel l a w
  | 0, l, a, w, hc, h => by
    have e : Region.ready md ops l = [] := by
      rw [List.eq_nil_iff_forall_not_mem]
      intro i hi
      have := count_set l i (mem_ready.1 hi).1
      omega
    exact ⟨e, fin l a w h e⟩
  | fuel + 1, l, a, w, hc, h => by
    refine ⟨fun e => fin l a w h e, fun i hi => wpOp_mono (fun a' w' h' => ?_) (stp l a w i h hi)⟩
    have := count_set l i (mem_ready.1 hi).1
    exact wpAny_inv I fin stp fuel _ a' w' (by omega) h'

theorem wp_region_inv {P : Program} {id : Nat} {ops : Array Oper} {Q : Exit → Act → World → Prop} {a : Act} {w : World} (hm : P.follows .mixedOrders = true) (I : Array Bool → Act → World → Prop)
    (start : I (Array.replicate ops.size false) a w.drew)
    (fin : ∀ l a w, I l a w → Region.ready .any ops l = [] → Q .normal a w)
    (stp : ∀ l a w i, I l a w → i ∈ Region.ready .any ops l → wpOp P ops Q i (I (l.setIfInBounds i true)) a w) : (Code.region id ops true).wp P Q a w :=
  wp_region_any hm (wpAny_inv I fin stp _ _ _ _ (by simp) start)
end Go.Proofs.Ytfajnnibkcnkaab.region
namespace Go.Proofs.Ytfajnnibkcnkaab.region
open Go

/-- The frame a0 with other values in the slots of D. -/
def ovr (D : Nat → Bool) (a0 : Act) (u : Nat → Value) : Act := { a0 with tmps := ((List.range a0.tmps.size).map fun s => if D s then u s else a0.tmps.getD s undef).toArray }
def upd (u : Nat → Value) (d : Nat) (v : Value) : Nat → Value := fun s => if s = d then v else u s

theorem getD_at (t : Array Value) (s : Nat) : t.getD s undef = t[s]?.getD undef := by
  rw [Array.getD_eq_getD_getElem?]
theorem ovr_at (D : Nat → Bool) (a0 : Act) (u : Nat → Value) (s : Nat) (hs : s < a0.tmps.size) : (ovr D a0 u).tmps[s]? = some (if D s then u s else a0.tmps.getD s undef) := by
  simp [ovr, hs]
theorem ovr_size (D : Nat → Bool) (a0 : Act) (u : Nat → Value) : (ovr D a0 u).tmps.size = a0.tmps.size := by simp [ovr]
theorem ovr_self (D : Nat → Bool) (a0 : Act) : ovr D a0 (fun s => a0.tmps.getD s undef) = a0 := by
  cases a0 with
  | mk tmps defers =>
    unfold ovr
    congr 1
    apply Array.ext_getElem?
    intro s
    rcases Nat.lt_or_ge s tmps.size with h | h
    · simp [h]
    · simp [h]
theorem ovr_put {D : Nat → Bool} {a0 : Act} {u : Nat → Value} {d : Nat} {v : Value} (hd : D d = true) : (ovr D a0 u).put (some d) v = ovr D a0 (upd u d v) := by
  have e : ((ovr D a0 u).put (some d) v).tmps = (ovr D a0 (upd u d v)).tmps := by
    show (ovr D a0 u).tmps.setIfInBounds d v = _
    apply Array.ext_getElem?
    intro s
    rcases Nat.lt_or_ge s a0.tmps.size with h | h
    · rw [ovr_at D a0 _ s h, Array.getElem?_setIfInBounds]
      by_cases hs : d = s
      · subst hs
        rw [if_pos rfl, ovr_size, if_pos h, if_pos hd]
        simp [upd]
      · rw [if_neg hs, ovr_at D a0 _ s h]
        have : ¬ s = d := fun e => hs e.symm
        simp [upd, this]
    · rw [Array.getElem?_eq_none (by simpa [ovr_size] using h), Array.getElem?_eq_none (by simpa [ovr_size] using h)]
  have e' : ((ovr D a0 u).put (some d) v).defers = (ovr D a0 (upd u d v)).defers := rfl
  cases h1 : (ovr D a0 u).put (some d) v
  cases h2 : ovr D a0 (upd u d v)
  rw [h1, h2] at e e'
  simp only at e e'
  rw [e, e']

theorem all_listed {ops : Array Oper} {l : Array Bool} (hacyc : ∀ (k : Nat) (o : Oper), ops[k]? = some o → ∀ e ∈ o.after, e.on < k) (hl : l.size = ops.size) (h : Region.ready .any ops l = []) : ∀ k, k < ops.size → l.getD k false = true := by
  intro k
  induction k using Nat.strongRecOn with
  | ind k ih =>
    intro hk
    have hl' : k < l.size := by omega
    cases hv : l.getD k false with
    | true => rfl
    | false =>
      have h1 : l.getD k true = false := by
        simp only [Array.getD, hl', dite_true] at hv ⊢
        exact hv
      have : k ∈ Region.ready .any ops l := mem_ready.2 ⟨h1, ops[k], Array.getElem?_eq_getElem hk, fun e he _ => ih e.on (hacyc k _ (Array.getElem?_eq_getElem hk) e he) (by have := hacyc k _ (Array.getElem?_eq_getElem hk) e he; omega)⟩
      rw [h] at this
      cases this

theorem wp_region_facts {P : Program} {id : Nat} {ops : Array Oper} {Q : Exit → Act → World → Prop} {a0 : Act} {w : World} (hm : P.follows .mixedOrders = true) (D : Nat → Bool)
    (hg : ∀ o ∈ ops, o.guard = none) (hacyc : ∀ (k : Nat) (o : Oper), ops[k]? = some o → ∀ e ∈ o.after, e.on < k)
    (I : Array Bool → (Nat → Value) → World → Prop)
    (start : I (Array.replicate ops.size false) (fun s => a0.tmps.getD s undef) w.drew)
    (fin : ∀ l u w, I l u w → (∀ k, k < ops.size → l.getD k false = true) → Q .normal (ovr D a0 u) w)
    (stp : ∀ l u w k o, I l u w → l.size = ops.size → l.getD k false = false → ops[k]? = some o → (∀ e ∈ o.after, Region.binds .any e = true → l.getD e.on false = true) →
      o.wp P (ovr D a0 u) w (fun a' w' => ∃ u', a' = ovr D a0 u' ∧ I (l.setIfInBounds k true) u' w') Q) : (Code.region id ops true).wp P Q a0 w := by
  refine wp_region_inv hm (fun l a w => l.size = ops.size ∧ ∃ u, a = ovr D a0 u ∧ I l u w) ⟨by simp, _, (ovr_self D a0).symm, start⟩ ?_ ?_
  · rintro l a w ⟨hl, u, rfl, h⟩ hr
    exact fin l u w h (all_listed hacyc hl hr)
  · rintro l a w i ⟨hl, u, rfl, h⟩ hi
    obtain ⟨h1, o, ho, hd⟩ := mem_ready.1 hi
    have hi' : i < ops.size := (Array.getElem?_eq_some_iff.1 ho).1
    have h1' : l.getD i false = false := by
      have hl' : i < l.size := by omega
      simp only [Array.getD, hl', dite_true] at h1 ⊢
      exact h1
    have hgo := hg o (Array.mem_of_getElem? ho)
    unfold wpOp
    rw [ho]
    simp only
    rw [if_pos (by simp [Region.wanted, hgo])]
    refine .inl (Oper.wp_mono (fun a' w' h' => ?_) (stp l u w i o h hl h1' ho hd))
    obtain ⟨u', e, h'⟩ := h'
    exact ⟨by simpa using hl, u', e, h'⟩

theorem getD_other (l : Array Bool) {k j : Nat} (h : ¬ k = j) : (l.setIfInBounds k true).getD j false = l.getD j false := by
  rw [Array.getD_eq_getD_getElem?, Array.getElem?_setIfInBounds, if_neg h, Array.getD_eq_getD_getElem?]

/-- What is known of the slots stays known where one more is known. -/
theorem facts_put {n : Nat} {F : Nat → Value → World → Prop} {dst : Nat → Nat} {l : Array Bool} {u : Nat → Value} {w w' : World} {k : Nat} {v : Value} (hi : ∀ j, j < n → dst j = dst k → j = k)
    (H : ∀ j, j < n → l.getD j false = true → F j (u (dst j)) w) (hs : ∀ j, j < n → j ≠ k → l.getD j false = true → ∀ t, F j t w → F j t w') (hv : F k v w') :
    ∀ j, j < n → (l.setIfInBounds k true).getD j false = true → F j (upd u (dst k) v (dst j)) w' := by
  intro j hj hlj
  by_cases e : j = k
  · subst e
    simp only [upd, if_true]
    exact hv
  · have : ¬ dst j = dst k := fun e' => e (hi j hj e')
    simp only [upd, this, if_false]
    have hlj' : l.getD j false = true := by rwa [getD_other l (Ne.symm e)] at hlj
    exact hs j hj e hlj' _ (H j hj hlj')
theorem listed_put {l : Array Bool} {k j : Nat} (hl : k < l.size) (h : (l.setIfInBounds k true).getD j false = false) : l.getD j false = false := by
  by_cases e : k = j
  · subst e
    simp [Array.getD, hl] at h
  · rwa [getD_other l e] at h
theorem listed_ne {l : Array Bool} {k : Nat} (hk : k < l.size) : (l.setIfInBounds k true).getD k false = true := by
  simp [Array.getD, hk]
end Go.Proofs.Ytfajnnibkcnkaab.region
