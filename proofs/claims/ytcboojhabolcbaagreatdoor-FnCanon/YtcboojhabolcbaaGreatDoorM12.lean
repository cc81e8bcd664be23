/-
  Small laws of the cursor: it stays where other blocks are made or written; a drawn yes or no; a drawn number between two. A drawn yes or no; a drawn number between two. What the laws' pick answers.
-/
import Derived.Test.YtcboojhabolcbaaGreatDoorDrawNew
import Derived.Test.YtcboojhabolcbaaGreatDoorM1
import Derived.Below
import Derived.Deep.RegionLaw
namespace Go.Proofs.YtcboojhabolcbaaGreatDoor.draw
open Go.RowKit

theorem cur_alloc {w : World} {bk : Nat} {a : Option Addr} {len cap : Nat} (h : Cur w bk a len cap) (o : Obj) : Cur (w.alloc o) bk a len cap := by
  obtain ⟨i, g, hb, hi⟩ := h
  exact ⟨i, g, (Below.heap_alloc w o bk (lt_of_block hb)).trans hb, hi⟩
theorem cur_lt {w : World} {bk : Nat} {a : Option Addr} {len cap : Nat} (h : Cur w bk a len cap) : bk < w.heap.size := by
  obtain ⟨i, g, hb, hi⟩ := h
  exact lt_of_block hb
theorem grownBy_alloc {w w' : World} {r : Option Nat} (h : w.grownBy w' r) (o : Obj) : w.grownBy (w'.alloc o) r := grownBy_trans h (World.grownBy_alloc w' o r)
theorem lit_cell {w w2 : World} {bk : Nat} {c : Array Value} {t : TypeId} (hg : (w.alloc (.cells c t)).grownBy w2 (some bk)) (hbk : bk < w.heap.size) {k : Nat} {v : Value} (hv : c[k]? = some v) :
    w2.cell? ⟨w.heap.size, k, none⟩ = some v :=
  hg.cell ((World.cell?_alloc_at c t w.heap.size k rfl).trans hv) (by simp; omega)

theorem cur_setCell {w : World} {bk : Nat} {a : Option Addr} {len cap : Nat} (h : Cur w bk a len cap) {p : Addr} (hp : bk ≠ p.block) (u : Value) : Cur (w.setCell p u) bk a len cap := by
  obtain ⟨i, g, hb, hi⟩ := h
  exact ⟨i, g, (Below.heap_setCell w p u bk hp).trans hb, hi⟩
theorem grownBy_setCell_new {w w' : World} {r : Option Nat} (h : w.grownBy w' r) {p : Addr} (hp : w.heap.size ≤ p.block) (u : Value) : w.grownBy (w'.setCell p u) r :=
  ⟨h.os, h.tape, h.output, by simpa using h.size, fun k hk hne => (Below.heap_setCell w' p u k (by omega)).trans (h.block k hk hne)⟩
/-- A block that was there and is not the cursor's stays. -/
theorem grownBy_block {w w' : World} {bk b : Nat} {o : Obj} (hg : w.grownBy w' (some bk)) (h : w.heap[b]? = some o) (hne : b ≠ bk) : w'.heap[b]? = some o :=
  (hg.block b (lt_of_block h) (by simpa using hne)).trans h
end Go.Proofs.YtcboojhabolcbaaGreatDoor.draw
namespace Go.Proofs.YtcboojhabolcbaaGreatDoor.draw
open Go.RowKit

theorem once_any {W w : World} {bk : Nat} {a : Option Addr} {len cap : Nat} {zs : List Int} (n : Int) (hr : IsRow .u8 W a len cap zs) (hW : Below W.heap.size W w) (hbk : W.heap.size ≤ bk) (hc : Cur w bk a len cap) :
    Calls Tryz.prog 32 #[.pointer (some ⟨bk, 0, none⟩), .int .i64 n] w fun e w' => ∃ b : Bool, e = .returned (.bool b) ∧ w.grownBy w' (some bk) ∧ Cur w' bk a len cap := by
  go_enter Tryz.func32, Tryz.ntmps32
  go_wp2_with fail
  refine (below_any n hr hW hbk hc).mono ?_
  rintro e w1 ⟨x, hx0, _, hx1, rfl, hg1, hc1⟩
  go_wp2
  go_ret
  exact ⟨_, rfl, hg1, hc1⟩

theorem from_any {W w : World} {bk : Nat} {a : Option Addr} {len cap : Nat} {zs : List Int} (lo hi : Int) (h1 : -1000 ≤ lo) (h2 : lo ≤ hi) (h3 : hi ≤ 1000) (hr : IsRow .u8 W a len cap zs) (hW : Below W.heap.size W w) (hbk : W.heap.size ≤ bk) (hc : Cur w bk a len cap) :
    Calls Tryz.prog 33 #[.pointer (some ⟨bk, 0, none⟩), .int .i64 lo, .int .i64 hi] w fun e w' => ∃ x : Int, lo ≤ x ∧ x ≤ hi ∧ e = .returned (.int .i64 x) ∧ w.grownBy w' (some bk) ∧ Cur w' bk a len cap := by
  go_enter Tryz.func33, Tryz.ntmps33
  go_wp2_with fail
  refine (below_any _ hr hW hbk hc).mono ?_
  rintro e w1 ⟨x, hx0, _, hx1, rfl, hg1, hc1⟩
  have hx2 := hx1 (by omega)
  clear hx1
  go_wp2
  go_ret
  exact ⟨_, by omega, by omega, rfl, hg1, hc1⟩

end Go.Proofs.YtcboojhabolcbaaGreatDoor.draw
namespace Go.Proofs.YtcboojhabolcbaaGreatDoor.draw
open Go.RowKit rows
set_option linter.unusedVariables false

theorem pickAll_any {W w : World} {a : Option Addr} {len cap : Nat} {zs : List Int} (hr : IsRow .u8 W a len cap zs) (hW : Below W.heap.size W w) (hlen : len ≤ 4096) (s m : Int) (s0 : 0 ≤ s) (s1 : s ≤ 1000) (m0 : 1 ≤ m) (m1 : m ≤ 65536) :
    Calls Tryz.prog 19 #[.slice a len cap, .int .i64 s, .int .i64 m] w fun e w' => ∃ k : Nat, (k : Int) < m ∧ e = .returned (.int .i64 k) ∧ w' = w := by
  have cells : ∀ j, j < len → ∃ b off, a = some ⟨b, off, none⟩ ∧ ∃ z : Int, 0 ≤ z ∧ z ≤ 255 ∧ w.cell? ⟨b, off + j, none⟩ = some (.int .u8 z) := by
    intro j hj
    obtain ⟨b, off, e, _, h⟩ := row_cells hr hW (by omega)
    exact ⟨b, off, e, h j hj⟩
  clear hr hW
  go_enter Tryz.func19, Tryz.ntmps19
  go_wp2
  go_loop [7, 8] (fun h i => ∃ (k : Nat) (g : Int), k ≤ len ∧ 0 ≤ g ∧ g ≤ 8000000 ∧ i = .int .i64 k ∧ h = .int .i64 g) (fun _ i => len - (intOf i).toNat)
  case atStart => exact ⟨0, _, Nat.zero_le _, by omega, by omega, rfl, rfl⟩
  case round =>
    obtain ⟨k, g, hk, hg0, hg1, rfl, rfl⟩ := hrel
    by_cases hlt : k < len
    · obtain ⟨b, off, rfl, z, hz0, hz1, hz⟩ := cells k hlt
      clear cells
      go_wp2
      go_round
      case rel => exact ⟨k + 1, _, by omega, by omega, by omega, by go_num, rfl⟩
      case measure => simp [intOf]; omega
    · clear cells
      have e0 : 0 ≤ g % m := Int.emod_nonneg _ (by omega)
      have e1 : g % m < m := Int.emod_lt_of_pos _ (by omega)
      have et : g.tmod m = g % m := Int.tmod_eq_emod_of_nonneg hg0
      have hm0 : ¬ m = 0 := by omega
      have hm1 : (m == 0) = false := by simp; omega
      go_wp2
      go_ret
      exact ⟨(g % m).toNat, by rw [Int.toNat_of_nonneg e0]; exact e1, by rw [Int.toNat_of_nonneg e0]; first | rfl | (rw [et]), rfl⟩
end Go.Proofs.YtcboojhabolcbaaGreatDoor.draw
