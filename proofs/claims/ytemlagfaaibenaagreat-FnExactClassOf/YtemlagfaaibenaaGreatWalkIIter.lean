/-
  What the program's chunks hands out, round by round: for every loop body that keeps the row, its box and the chunks in memory.
  Made from the template WalkIIter.
-/
import Derived.RangeFuncNested
import Derived.RangeFuncCalls
import Derived.RangeFuncLeaves
import Derived.Shelf.Abstract
import Derived.WalkKit
import Derived.OwnWalkIn
import Derived.TacticsInMore
import Derived.LoopNIn
import Derived.LoopIn
import Derived.Maps.AppendAt
import Derived.Test.YtemlagfaaibenaaGreatM6
namespace Go.Proofs.YtemlagfaaibenaaGreat.walks
open Go.RowKit Go.Shelf rows heads words

attribute [local go_sem] Oper.semAt_some

/-- What a round hands out at a place. -/
abbrev encs (a : Option Addr) (ys : List Int) (x : Pl) : Array Value :=
  #[.int .i64 (x.val : Int), cv (uS (ys.getD x.val 0)) (uF (ys.getD x.val 0)) (uC (ys.getD x.val 0)) (uH (ys.getD x.val 0)) (uP (ys.getD x.val 0)) (uM (ys.getD x.val 0)) (piece a x.val (chunk ys x.val).toNat)]

/-- What a round keeps: all that lay below n₀, the box of the row, every block that holds a chunk. -/
def Kc (n₀ Br : Nat) (W W' : World) : Prop := Below n₀ W W' ∧ W'.heap[Br]? = W.heap[Br]? ∧ ∀ (b : Nat) (cs : Array Value), W.heap[b]? = some (Obj.cells cs 44 (0, 0)) → W'.heap[b]? = some (Obj.cells cs 44 (0, 0))
theorem kc_t {n₀ Br : Nat} {A B C : World} (h : Kc n₀ Br A B) (k : Kc n₀ Br B C) : Kc n₀ Br A C := ⟨h.1.trans k.1, k.2.1.trans h.2.1, fun b cs e => k.2.2 b cs (h.2.2 b cs e)⟩
theorem kc_b {n₀ Br : Nat} {w : World} (hn : n₀ ≤ w.heap.size) (hB : Br < w.heap.size) (W : World) (l : Nat) (o o' : Obj) (hl : w.heap.size ≤ l) (h : W.heap[l]? = some o) (hc : o.isCells = false) (hw : o.isWalk = false) : Kc n₀ Br W (W.putObj l o') :=
  ⟨belowK_b hn W l o o' hl h hc hw, World.putObj_heap_other (by omega), fun b cs e => by
    have hne : b ≠ l := fun e' => by subst e'; rw [h] at e; cases e; cases hc
    exact (World.putObj_heap_other hne).trans e⟩
theorem grown_of_below {W W' : World} (h : Below W.heap.size W W') : W.grownBy W' none := ⟨h.os, h.tape, h.output, h.size, fun i hi _ => h.block i hi⟩

set_option maxRecDepth 100000 in
set_option maxHeartbeats 4000000 in
theorem chunks1_in (n : Nat) (hn : 2 ≤ n) (l Br Bf n₀ f : Nat) (a : Option Addr) (cap : Nat) (ys : List Int) (hl : ys.length ≤ 1000) (ha : AllI ys) (hf : f ≤ 1000) (J Jx : List Pl → World → Prop)
    (hY : ∀ pre x W, J pre W → pre.length < (plO ys f).length → YieldAt Fence.wide (n - 1) Tryz.prog l (encs a ys x) W fun e W' =>
      (e = .returned (.bool true) ∧ J (pre ++ [x]) W' ∧ Kc n₀ Br W W') ∨ (e = .returned (.bool false) ∧ Jx (pre ++ [x]) W'))
    (W0 : World) (hJ : AbidesFrom W0.heap.size J) (hBr : Boxed W0 Br 22 (.slice a ys.length cap)) (hBf : W0.cell? ⟨Bf, 0, none⟩ = some (.int .i64 f)) (hI : ∀ W, Below n₀ W0 W → IntsAt W (.slice a ys.length cap) ys) (h0 : J [] W0) (hn₀ : n₀ ≤ W0.heap.size) :
    CallsIn Fence.wide n Tryz.prog 150 #[.func (.yield l) #[] #[], .pointer (some ⟨Bf, 0, none⟩), .pointer (some ⟨Br, 0, none⟩)] W0 fun e W' => (∃ v, e = .returned v) ∧
      ((∃ zs, zs = plO ys f ∧ J zs W') ∨ (∃ pre, pre <+: plO ys f ∧ Jx pre W')) := by
  refine callsIn_of_wp Tryz.func150 rfl trivial ?_ rfl
  simp only [Tryz.ntmps150, List.size_toArray, List.length_cons, List.length_nil, Nat.reduceAdd, Nat.reduceSub, Array.replicate_succ, Array.replicate_zero, List.push_toArray, List.append_toArray, List.nil_append, List.cons_append]
  gi_wp2
  gi_loopw [4] (fun p wr => ∃ (pre : List Pl) (k : Nat), p = .int .i64 (k : Int) ∧ k ≤ 1000 ∧ plO ys f = pre ++ plO ys k ∧ J pre wr ∧ Below n₀ W0 wr ∧ Boxed wr Br 22 (.slice a ys.length cap))
    (fun p _ => 1001 - (intOf p).toNat)
  case atStart =>
    exact ⟨[], f, rfl, hf, rfl, h0, Below.refl _ _, hBr⟩
  case round =>
    obtain ⟨pre, k, rfl, hk, hL, hJs, hB, bR⟩ := hrel
    have cR := bR.cell
    have h1 : 1 ≤ n := by omega
    cases d : okAt ys k
    · have e0 : chunk ys k = 0 := by
        have := chunk_bounds ys k
        simp [okAt, rowOk, atOk] at d
        omega
      have C := callsIn_wide (n := n - 1).2 (chunkOf_out (hI wr hB) (by omega) k ⟨by omega, by omega⟩ d)
      clear hY hI
      gi_wp2_with fail
      refine ⟨trivial, C.mono ?_⟩
      rintro e w1 ⟨rfl, b1⟩
      have hJ1 := hJ pre wr _ none hJs (grown_of_below (b1.alloc b1.size (cb 0 0 0 0 false false (.slice none 0 0)))) (fun _ e => by cases e)
      have HE : Hid _ := hJ1
      clear b1 C hJ1 hJ hJs
      gi_wp2
      refine ⟨fun _ h => (by cases h), ?_⟩
      gi_wp2
      refine bodyPost_ret (results_none rfl _ _ _) rfl ?_
      exact ⟨⟨_, rfl⟩, .inl ⟨pre, by rw [hL, plO_end e0, List.append_nil], HE⟩⟩
    · have C := callsIn_wide (n := n - 1).2 (chunkOf_in (hI wr hB) (by omega) ha k d)
      unfold chRes at C
      by_cases e0 : chunk ys k = 0
      · rw [if_pos e0] at C
        clear hY hI
        gi_wp2_with fail
        refine ⟨trivial, C.mono ?_⟩
        rintro e w1 ⟨rfl, b1⟩
        have hJ1 := hJ pre wr _ none hJs (grown_of_below (b1.alloc b1.size (cb 0 0 0 0 false false (.slice none 0 0)))) (fun _ e => by cases e)
        have HE : Hid _ := hJ1
        clear b1 C hJ1 hJ hJs
        gi_wp2
        refine ⟨fun _ h => (by cases h), ?_⟩
        gi_wp2
        refine bodyPost_ret (results_none rfl _ _ _) rfl ?_
        exact ⟨⟨_, rfl⟩, .inl ⟨pre, by rw [hL, plO_end e0, List.append_nil], HE⟩⟩
      · rw [if_neg e0] at C
        have hpl := plO_step hl (show k < 1001 by omega) e0
        have hlt : pre.length < (plO ys f).length := by rw [hL, hpl]; simp
        have hY1 := fun W hW => hY pre ⟨k, by omega⟩ W hW hlt
        have cn := chunk_nat ys k
        have cb2 := chunk_bounds ys k
        have hL2 : plO ys f = (pre ++ [⟨k, by omega⟩]) ++ plO ys (k + (chunk ys k).toNat) := by rw [hL, hpl]; simp
        simp only [encs] at hY1
        rw [hpl] at hL
        unfold piece at hY1 C
        generalize hN : (chunk ys k).toNat = N at *
        have hNk : k + N ≤ 1000 := by omega
        have hN2 : 2 ≤ N := by omega
        clear hY cn cb2 e0 hN
        generalize uS (ys.getD k 0) = s at *
        generalize uF (ys.getD k 0) = ff at *
        generalize uC (ys.getD k 0) = c at *
        generalize uH (ys.getD k 0) = g at *
        generalize uP (ys.getD k 0) = p at *
        generalize uM (ys.getD k 0) = m at *
        generalize (if N = 0 then a else Option.map (fun x => x.add k) a) = ad at *
        gi_wp2_with fail
        refine ⟨trivial, C.mono ?_⟩
        rintro e w1 ⟨rfl, b1⟩
        have hJ1 := hJ pre wr _ none hJs (grown_of_below (b1.alloc b1.size (cb s ff c g p m (.slice ad N N)))) (fun _ e => by cases e)
        have HB1 := (hB.trans (b1.mono (Nat.le_trans hn₀ hB.size))).alloc (Nat.le_trans (Nat.le_trans hn₀ hB.size) b1.size) (cb s ff c g p m (.slice ad N N))
        have bR1 : Boxed (w1.alloc (cb s ff c g p m (.slice ad N N))) Br 22 (.slice a ys.length cap) := bR.kept (grown_of_below (b1.alloc b1.size (cb s ff c g p m (.slice ad N N)))) (by simp)
        have M1 := chAt_new w1 s ff c g p m (.slice ad N N)
        obtain ⟨fn, tmps, assign, body, hy, hR⟩ := hY1 _ hJ1
        have HB : Hid _ := HB1
        have HBX : Hid _ := bR1
        have HM : Hid _ := M1
        have HJ : Hid _ := hJ
        clear b1 C hJs hB bR cR hY1 hJ1 HB1 bR1 M1 hJ
        gi_wp2
        refine hR.mono ?_
        rintro e W3 (⟨rfl, hJ3, hk3⟩ | ⟨rfl, hJx3⟩)
        · have M3 : ChAt W3 w1.heap.size s ff c g p m (.slice ad N N) := hk3.2.2 _ _ HM.out
          have HB3 : Hid _ := HB.out.trans hk3.1
          have HR3 : Hid (Boxed W3 Br 22 (.slice a ys.length cap)) := hk3.2.1.trans HBX.out
          have HJ4 : Hid _ := HJ.out _ W3 _ none hJ3 (grown_of_below ((Below.refl _ W3).alloc (Nat.le_refl _) (cb s ff c g p m (.slice ad N N)))) (fun _ e => by cases e)
          have HB4 : Hid _ := HB3.out.alloc (Nat.le_trans hn₀ HB3.out.size) (cb s ff c g p m (.slice ad N N))
          have HR4 : Hid _ := HR3.out.alloc (cb s ff c g p m (.slice ad N N))
          obtain ⟨m0, m1, m2, m3, m4, m5, m6, mf⟩ := chAt_cells M3
          clear HB HBX HM hR hy M3 hk3 hJ3 mf HJ HB3 HR3
          gi_wp2_with fail
          refine ⟨trivial, (callsIn_wide.2 (size_any s ff c g p m ad N N W3)).mono ?_⟩
          rintro e W4 ⟨rfl, rfl⟩
          gi_wp2
          go_roundw
          case rel => exact ⟨_, k + N, by go_num, hNk, hL2, HJ4, HB4, HR4⟩
          case measure => simp [intOf]; omega
        · gi_wp2
          refine bodyPost_ret (results_none rfl _ _ _) rfl ?_
          exact ⟨⟨_, rfl⟩, .inr ⟨_, ⟨plO ys (k + N), hL2.symm⟩, hJx3⟩⟩

theorem chunks_any (a : Option Addr) (len cap : Nat) (f : Int) (w : World) :
    Calls Tryz.prog 144 #[.slice a len cap, .int .i64 f] w fun e w' => e = .returned (.func (.func 150) #[] #[.pointer (some ⟨w.heap.size + 1, 0, none⟩), .pointer (some ⟨w.heap.size, 0, none⟩)]) ∧ w' = (w.alloc (.cells #[.slice a len cap] 22)).alloc (.cells #[.int .i64 f] 2) := by
  go_enter Tryz.func144, Tryz.ntmps144
  go_wp2
  go_ret
  exact ⟨rfl, rfl⟩

/-- All the places in their order, or, where a round has said no more, some of them. -/
theorem chunks_stops (n : Nat) (hn : 2 ≤ n) (Br Bf n₀ f : Nat) (a : Option Addr) (cap : Nat) (ys : List Int) (hl : ys.length ≤ 1000) (ha : AllI ys) (hf : f ≤ 1000) (w : World) (h1 : Br < w.heap.size) (h2 : Bf < w.heap.size) (hn₀ : n₀ ≤ w.heap.size)
    (hBr : Boxed w Br 22 (.slice a ys.length cap)) (hBf : w.cell? ⟨Bf, 0, none⟩ = some (.int .i64 f)) (hI : ∀ W, Below n₀ w W → IntsAt W (.slice a ys.length cap) ys) :
    SeqStopsK Fence.wide n Tryz.prog 150 #[.pointer (some ⟨Bf, 0, none⟩), .pointer (some ⟨Br, 0, none⟩)] (encs a ys) (Kc n₀ Br) (fun zs => zs = plO ys f) (fun pre => pre <+: plO ys f) (plO ys f).length w := fun l J Jx W hW hJ _ hY h0 =>
  chunks1_in n hn l Br Bf n₀ f a cap ys hl ha hf J Jx hY W hJ ((hW.block Br h1).trans hBr) ((hW.cell (p := ⟨Bf, 0, none⟩) h2).trans hBf) (fun W' hW' => hI W' ((hW.mono hn₀).trans hW')) h0 (Nat.le_trans hn₀ hW.size)
end Go.Proofs.YtemlagfaaibenaaGreat.walks
