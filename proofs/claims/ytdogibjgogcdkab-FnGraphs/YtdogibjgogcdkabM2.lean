/-
  The cursor over the bytes of a draw: what its functions return and what they write: the cursor's own block alone. A new cursor over the bytes of a draw: it lies in one new block. Small laws of the cursor: it stays where other blocks are made or written; a drawn yes or no; a drawn number between two. A drawn yes or no; a drawn number between two. Chapter 6, the drawn inputs: a ref into a graph. Chapter 6: a new graph; by the specification and by the program. A graph of the call's own: one of its objects as it lies in memory.
-/
import Derived.Test.YtdogibjgogcdkabRows
import Derived.WalkKit
import Derived.WalkSpells
import Derived.WalkLawsBesides
import Derived.OpenShut
import Derived.Below
import Derived.Deep.QuietTactic
import Derived.BigQuiet
import Derived.LoopTactic
import Derived.LoopN
import Derived.Test.YtdogibjgogcdkabGraphEd5
import Derived.Lib.Hide
import Derived.Test.YtdogibjgogcdkabGraphIEdit2
import Derived.Test.YtdogibjgogcdkabM1
namespace Go.Proofs.Ytdogibjgogcdkab.draw
open Go.RowKit

/-- A slice of numbers that came in: nil, or a row of cells. -/
def IsRow (k : IntKind) (w : World) (a : Option Addr) (len cap : Nat) (zs : List Int) : Prop :=
  (a = none ∧ len = 0 ∧ cap = 0 ∧ zs = []) ∨
  ∃ x, a = some x ∧ len ≤ cap ∧ cap ≤ maxLen ∧ zs.length = cap ∧ (∀ i, i < zs.length → w.cell? (x.add i) = some (.int k (zs.getD i 0))) ∧ ∀ n ∈ zs, (Lit.int k n).wf = true

theorem mask (n : Int) (i : Nat) (hi : i ≤ 62) (m : Int) (hm : m = 2 ^ i - 1) : bits .and .i64 n m = n % 2 ^ i := by
  subst hm
  have hp : 0 < 2 ^ i := Nat.two_pow_pos i
  have hc : ((2 : Int) ^ i - 1) = ((2 ^ i - 1 : Nat) : Int) := by
    rw [Int.natCast_sub hp]; simp
  have hle : 2 ^ i ≤ 2 ^ 62 := Nat.pow_le_pow_right (by decide) hi
  have h3 : (BitVec.ofInt 64 ((2 : Int) ^ i - 1)).toNat = 2 ^ i - 1 := by
    rw [hc, BitVec.ofInt_natCast, BitVec.toNat_ofNat, Nat.mod_eq_of_lt]
    have : (2 : Nat) ^ 62 < 2 ^ 64 := by decide
    omega
  have key : (BitVec.ofInt 64 n &&& BitVec.ofInt 64 ((2 : Int) ^ i - 1)).toNat = (n % ((2 ^ 64 : Nat) : Int)).toNat % 2 ^ i := by
    rw [BitVec.toNat_and, BitVec.toNat_ofInt, h3, Nat.and_two_pow_sub_one_eq_mod]
  show IntKind.i64.wrap ((BitVec.ofInt 64 n &&& BitVec.ofInt 64 ((2 : Int) ^ i - 1)).toNat : Nat) = n % 2 ^ i
  rw [key, IntKind.wrap_i64]
  have hd : ((2 ^ i : Nat) : Int) ∣ ((2 ^ 64 : Nat) : Int) := by
    exact_mod_cast Nat.pow_dvd_pow 2 (by omega : i ≤ 64)
  have e1 : (((n % ((2 ^ 64 : Nat) : Int)).toNat % 2 ^ i : Nat) : Int) = n % ((2 ^ i : Nat) : Int) := by
    rw [Int.natCast_emod, Int.toNat_of_nonneg (Int.emod_nonneg _ (by decide)), Int.emod_emod_of_dvd _ hd]
  rw [e1]
  have h0 : 0 ≤ n % ((2 ^ i : Nat) : Int) := Int.emod_nonneg _ (by omega)
  have h1 : n % ((2 ^ i : Nat) : Int) < ((2 ^ i : Nat) : Int) := Int.emod_lt_of_pos _ (by omega)
  have h2 : ((2 ^ i : Nat) : Int) ≤ 4611686018427387904 := by
    have : (2 : Nat) ^ 62 = 4611686018427387904 := by decide
    omega
  have e2 : ((2 ^ i : Nat) : Int) = 2 ^ i := by simp
  rw [← e2]
  omega

theorem and255 (n : Int) : bits .and .i64 n 255 = n % 256 := mask n 8 (by decide) 255 (by decide)
theorem and30 (n : Int) : bits .and .i64 n 1073741823 = n % 1073741824 := mask n 30 (by decide) 1073741823 (by decide)

/-- The cursor's block: the slice, how far it has come, the number that is mixed on. -/
def Cur (w : World) (bk : Nat) (a : Option Addr) (len cap : Nat) : Prop :=
  ∃ (i : Nat) (h : Int), w.heap[bk]? = some (.cells #[.slice a len cap, .int .i64 (i : Int), .int .i64 h] 131 (0, 0)) ∧ i ≤ len

theorem three_setCell {w : World} {b : Nat} {c : Array Value} {t : TypeId} (h : w.heap[b]? = some (.cells c t (0, 0))) (k : Nat) (u : Value) :
    (w.setCell ⟨b, k, none⟩ u).heap[b]? = some (.cells (c.setIfInBounds k u) t (0, 0)) := by
  have hlt := lt_of_block h
  have h' : w.heap[b] = .cells c t (0, 0) := by simpa [Array.getElem?_eq_getElem hlt] using h
  show (w.heap.modify b _)[b]? = _
  rw [Array.getElem?_eq_getElem (by simpa using hlt), Array.getElem_modify_self, h']
  rfl

theorem grownBy_refl (w : World) (r : Option Nat) : w.grownBy w r := ⟨rfl, rfl, rfl, Nat.le_refl _, fun _ _ _ => rfl⟩
theorem grownBy_drewN {w w' : World} {r : Option Nat} (h : w.grownBy w' r) (n : Nat) : w.grownBy (w'.drewN n) r := ⟨h.os, h.tape, h.output, h.size, h.block⟩
theorem grownBy_drew {w w' : World} {r : Option Nat} (h : w.grownBy w' r) : w.grownBy w'.drew r := ⟨h.os, h.tape, h.output, h.size, h.block⟩
theorem grownBy_setCell {w w' : World} {b : Nat} (h : w.grownBy w' (some b)) (k : Nat) (u : Value) : w.grownBy (w'.setCell ⟨b, k, none⟩ u) (some b) :=
  ⟨h.os, h.tape, h.output, by simpa using h.size, fun k' hk hne => (Below.heap_setCell w' _ u k' (fun e => hne (by simp [e]))).trans (h.block k' hk hne)⟩
theorem grownBy_trans {a b c : World} {r : Option Nat} (h : a.grownBy b r) (k : b.grownBy c r) : a.grownBy c r :=
  ⟨k.os.trans h.os, k.tape.trans h.tape, k.output.trans h.output, Nat.le_trans h.size k.size, fun i hi hne => (k.block i (Nat.lt_of_lt_of_le hi h.size) hne).trans (h.block i hi hne)⟩

theorem cur_drewN {w : World} {bk : Nat} {a : Option Addr} {len cap n : Nat} (h : Cur w bk a len cap) : Cur (w.drewN n) bk a len cap := h
theorem cur_drew {w : World} {bk : Nat} {a : Option Addr} {len cap : Nat} (h : Cur w bk a len cap) : Cur w.drew bk a len cap := h
theorem cur_one {w : World} {bk : Nat} {a : Option Addr} {len cap i : Nat} {h : Int} (hb : w.heap[bk]? = some (.cells #[.slice a len cap, .int .i64 (i : Int), .int .i64 h] 131 (0, 0))) (h' : Int) (hi : i ≤ len) :
    Cur (w.setCell ⟨bk, 2, none⟩ (.int .i64 h')) bk a len cap := ⟨i, h', (three_setCell hb 2 _).trans rfl, hi⟩
theorem cur_two {w : World} {bk : Nat} {a : Option Addr} {len cap i : Nat} {h : Int} (hb : w.heap[bk]? = some (.cells #[.slice a len cap, .int .i64 (i : Int), .int .i64 h] 131 (0, 0))) (h' : Int) (hi : i + 1 ≤ len) :
    Cur ((w.setCell ⟨bk, 2, none⟩ (.int .i64 h')).setCell ⟨bk, 1, none⟩ (.int .i64 ((i : Int) + 1))) bk a len cap :=
  ⟨i + 1, h', (three_setCell (three_setCell hb 2 _) 1 _).trans rfl, hi⟩
theorem rem_le (x n : Int) (h0 : 0 ≤ x) (h1 : x ≤ 4294967295) (hn : 0 < n) : x % n ≤ 4294967295 := by
  by_cases h : n ≤ x
  · have := Int.emod_lt_of_pos x hn
    omega
  · rw [Int.emod_eq_of_lt h0 (by omega)]
    exact h1

theorem byte_any {W w : World} {bk : Nat} {a : Option Addr} {len cap : Nat} {zs : List Int} (hr : IsRow .u8 W a len cap zs) (hW : Below W.heap.size W w) (hbk : W.heap.size ≤ bk) (hc : Cur w bk a len cap) :
    Calls Try.prog 120 #[.pointer (some ⟨bk, 0, none⟩)] w fun e w' => ∃ x : Int, 0 ≤ x ∧ x ≤ 255 ∧ e = .returned (.int .i64 x) ∧ w.grownBy w' (some bk) ∧ Cur w' bk a len cap := by
  obtain ⟨i, h, hb, hi⟩ := hc
  have hm := and255
  have c0 : w.cell? ⟨bk, 0, none⟩ = some (.slice a len cap) := by simp [World.cell?, hb]
  have c1 : w.cell? ⟨bk, 1, none⟩ = some (.int .i64 (i : Int)) := by simp [World.cell?, hb]
  have c2 : w.cell? ⟨bk, 2, none⟩ = some (.int .i64 h) := by simp [World.cell?, hb]
  have f1 : w.frozen? ⟨bk, 1, none⟩ = false := by simp [World.frozen?, hb]
  have f2 : w.frozen? ⟨bk, 2, none⟩ = false := by simp [World.frozen?, hb]
  have HB : Hid (w.heap[bk]? = some (.cells #[.slice a len cap, .int .i64 (i : Int), .int .i64 h] 131 (0, 0))) := hb
  clear hb
  by_cases hlt : i < len
  · rcases hr with ⟨_, h0, _⟩ | ⟨x, rfl, hl, hml, hzl, hcell, hwf⟩
    · omega
    · obtain ⟨b, off, rfl, hcell'⟩ := ints_at hcell (by omega)
      have hlt' : b < W.heap.size := World.block_lt_of_cell? W _ (hcell' i (by omega))
      have hne : ¬ b = bk := by omega
      have hne' : ¬ bk = b := by omega
      have hzb : 0 ≤ zs.getD i 0 ∧ zs.getD i 0 ≤ 255 := by
        have := hwf (zs.getD i 0) (by simp [List.getD_eq_getElem?_getD, List.getElem?_eq_getElem (show i < zs.length by omega)])
        simpa [Lit.wf, IntKind.min, IntKind.max, IntKind.signed, IntKind.bits] using this
      have cz : w.cell? ⟨b, off + i, none⟩ = some (.int .u8 (zs.getD i 0)) := (hW.cell (p := ⟨b, off + i, none⟩) hlt').trans (hcell' i (by omega))
      generalize zs.getD i 0 = z at hzb cz
      obtain ⟨hz0, hz1⟩ := hzb
      unfold maxLen at hml
      clear hcell hcell' hwf hzl hW hbk hlt'
      go_enter Try.func120, Try.ntmps120
      go_wp2
      go_quiet (fail)
      go_wp2
      go_quiet (fail)
      go_wp2
      go_quiet (fail)
      go_wp2
      go_ret
      refine ⟨_, ?_, ?_, rfl, ?_, ?_⟩
      · omega
      · omega
      · repeat (first | exact grownBy_refl _ _ | refine grownBy_drewN ?_ _ | refine grownBy_drew ?_ | refine grownBy_setCell ?_ _ _)
      · repeat (first | exact cur_two HB.out _ (by omega) | refine cur_drewN ?_ | refine cur_drew ?_)
  · clear hW hbk hr
    go_enter Try.func120, Try.ntmps120
    go_wp2
    go_quiet (fail)
    go_wp2
    go_quiet (fail)
    go_wp2
    go_ret
    refine ⟨_, ?_, ?_, rfl, ?_, ?_⟩
    · omega
    · omega
    · repeat (first | exact grownBy_refl _ _ | refine grownBy_drewN ?_ _ | refine grownBy_drew ?_ | refine grownBy_setCell ?_ _ _)
    · repeat (first | exact cur_one HB.out _ hi | refine cur_drewN ?_ | refine cur_drew ?_)

theorem below_any {W w : World} {bk : Nat} {a : Option Addr} {len cap : Nat} {zs : List Int} (n : Int) (hr : IsRow .u8 W a len cap zs) (hW : Below W.heap.size W w) (hbk : W.heap.size ≤ bk) (hc : Cur w bk a len cap) :
    Calls Try.prog 52 #[.pointer (some ⟨bk, 0, none⟩), .int .i64 n] w fun e w' => ∃ x : Int, 0 ≤ x ∧ x ≤ 4294967295 ∧ (0 < n → x < n) ∧ e = .returned (.int .i64 x) ∧ w.grownBy w' (some bk) ∧ Cur w' bk a len cap := by
  have step : ∀ {w' : World}, w.grownBy w' (some bk) → Below W.heap.size W w' := fun hg => hW.grown hg hW.size (fun k e => by cases e; exact hbk)
  by_cases h1 : n ≤ 0
  · go_enter Try.func52, Try.ntmps52
    go_wp2
    go_ret
    exact ⟨0, by omega, by omega, by omega, rfl, grownBy_refl _ _, hc⟩
  · by_cases h2 : n ≤ 256
    · go_enter Try.func52, Try.ntmps52
      go_wp2_with fail
      refine (byte_any hr hW hbk hc).mono ?_
      rintro e w1 ⟨x, hx0, hx1, rfl, hg, hc1⟩
      have hn : ¬ n = 0 := by omega
      go_wp2
      go_ret
      refine ⟨_, ?_, ?_, ?_, rfl, hg, hc1⟩
      · exact Int.emod_nonneg _ hn
      · exact rem_le _ _ (by omega) (by omega) (by omega)
      · intro h
        exact Int.emod_lt_of_pos x h
    · go_enter Try.func52, Try.ntmps52
      go_wp2_with fail
      refine (byte_any hr hW hbk hc).mono ?_
      rintro e w1 ⟨x1, hx1, hy1, rfl, hg1, hc1⟩
      go_wp2_with fail
      refine (byte_any hr (step hg1) hbk hc1).mono ?_
      rintro e w2 ⟨x2, hx2, hy2, rfl, hg2, hc2⟩
      have hg2 := grownBy_trans hg1 hg2
      go_wp2_with fail
      refine (byte_any hr (step hg2) hbk hc2).mono ?_
      rintro e w3 ⟨x3, hx3, hy3, rfl, hg3, hc3⟩
      have hg3 := grownBy_trans hg2 hg3
      go_wp2_with fail
      refine (byte_any hr (step hg3) hbk hc3).mono ?_
      rintro e w4 ⟨x4, hx4, hy4, rfl, hg4, hc4⟩
      have hg4 := grownBy_trans hg3 hg4
      have hn : ¬ n = 0 := by omega
      go_wp2
      go_ret
      refine ⟨_, ?_, ?_, ?_, rfl, hg4, hc4⟩
      · exact Int.emod_nonneg _ hn
      · exact rem_le _ _ (by omega) (by omega) (by omega)
      · intro h
        exact Int.emod_lt_of_pos _ h
end Go.Proofs.Ytdogibjgogcdkab.draw
namespace Go.Proofs.Ytdogibjgogcdkab.draw
open Go.RowKit

theorem row_cells {W w : World} {a : Option Addr} {len cap : Nat} {zs : List Int} (hr : IsRow .u8 W a len cap zs) (hW : Below W.heap.size W w) (hp : 0 < len) :
    ∃ b off, a = some ⟨b, off, none⟩ ∧ b < W.heap.size ∧ ∀ j, j < len → ∃ z : Int, 0 ≤ z ∧ z ≤ 255 ∧ w.cell? ⟨b, off + j, none⟩ = some (.int .u8 z) := by
  rcases hr with ⟨_, h0, _⟩ | ⟨x, rfl, hl, hml, hzl, hcell, hwf⟩
  · omega
  · obtain ⟨b, off, rfl, hcell'⟩ := ints_at hcell (by omega)
    have hlt' : b < W.heap.size := World.block_lt_of_cell? W _ (hcell' 0 (by omega))
    refine ⟨b, off, rfl, hlt', fun j hj => ?_⟩
    have hzb : 0 ≤ zs.getD j 0 ∧ zs.getD j 0 ≤ 255 := by
      have := hwf (zs.getD j 0) (by simp [List.getD_eq_getElem?_getD, List.getElem?_eq_getElem (show j < zs.length by omega)])
      simpa [Lit.wf, IntKind.min, IntKind.max, IntKind.signed, IntKind.bits] using this
    exact ⟨_, hzb.1, hzb.2, (hW.cell (p := ⟨b, off + j, none⟩) hlt').trans (hcell' j (by omega))⟩

theorem cur_new (w : World) (a : Option Addr) (len cap : Nat) (h : Int) :
    Cur (w.alloc (.cells #[.slice a len cap, .int .i64 0, .int .i64 h] 131)) w.heap.size a len cap :=
  ⟨0, h, heap_alloc_new w _, Nat.zero_le _⟩

theorem new_any {W w : World} {a : Option Addr} {len cap : Nat} {zs : List Int} (hr : IsRow .u8 W a len cap zs) (hW : Below W.heap.size W w) (hlen : len ≤ 4096) :
    Calls Try.prog 51 #[.slice a len cap] w fun e w' => e = .returned (.pointer (some ⟨w.heap.size, 0, none⟩)) ∧ Cur w' w.heap.size a len cap ∧ w'.heap.size = w.heap.size + 1 ∧ Below w.heap.size w w' := by
  have hm := and30
  rcases Nat.eq_zero_or_pos len with h0 | hp
  · subst h0
    clear hr hW hlen
    go_enter Try.func51, Try.ntmps51
    go_wp2
    refine wp_loop_rounds 1 ?_
    rw [rounds_succ]
    go_wp2
    go_ret
    exact ⟨rfl, cur_new _ _ _ _ _, by simp, (Below.refl _ _).alloc (Nat.le_refl _) _⟩
  · obtain ⟨b, off, rfl, hb, hcells⟩ := row_cells hr hW hp
    clear hr hW
    go_enter Try.func51, Try.ntmps51
    go_wp2
    go_loop [3, 4] (fun h i => ∃ (k : Nat) (g : Int), k ≤ len ∧ 0 ≤ g ∧ g ≤ 1073741823 ∧ i = .int .i64 k ∧ h = .int .i64 g) (fun _ i => len - (intOf i).toNat)
    case atStart => exact ⟨0, _, Nat.zero_le _, by omega, by omega, rfl, rfl⟩
    case round =>
      obtain ⟨k, g, hk, hg0, hg1, rfl, rfl⟩ := hrel
      by_cases hlt : k < len
      · obtain ⟨z, hz0, hz1, hz⟩ := hcells k hlt
        clear hcells
        go_wp2
        go_round
        case rel => exact ⟨k + 1, _, by omega, by omega, by omega, by go_num, rfl⟩
        case measure => simp [intOf]; omega
      · clear hcells
        go_wp2
        go_ret
        exact ⟨rfl, cur_new _ _ _ _ _, by simp, (Below.refl _ _).alloc (Nat.le_refl _) _⟩
end Go.Proofs.Ytdogibjgogcdkab.draw
namespace Go.Proofs.Ytdogibjgogcdkab.draw
open Go.RowKit

theorem cur_alloc {w : World} {bk : Nat} {a : Option Addr} {len cap : Nat} (h : Cur w bk a len cap) (o : Obj) : Cur (w.alloc o) bk a len cap := by
  obtain ⟨i, g, hb, hi⟩ := h
  exact ⟨i, g, (Below.heap_alloc w o bk (lt_of_block hb)).trans hb, hi⟩
theorem cur_lt {w : World} {bk : Nat} {a : Option Addr} {len cap : Nat} (h : Cur w bk a len cap) : bk < w.heap.size := by
  obtain ⟨i, g, hb, hi⟩ := h
  exact lt_of_block hb
theorem grownBy_alloc {w w' : World} {r : Option Nat} (h : w.grownBy w' r) (o : Obj) : w.grownBy (w'.alloc o) r := grownBy_trans h (World.grownBy_alloc w' o r)
theorem lit_cell {w w2 : World} {bk : Nat} {c : Array Value} {t : TypeId} (hg : (w.alloc (.cells c t)).grownBy w2 (some bk)) (hbk : bk < w.heap.size) {k : Nat} {v : Value} (hv : c[k]? = some v) :
    w2.cell? ⟨w.heap.size, k, none⟩ = some v :=
  hg.cell ((World.cell?_alloc_at c t w.heap.size k rfl).trans hv) (by simp; omega)

theorem cur_setCell {w : World} {bk : Nat} {a : Option Addr} {len cap : Nat} (h : Cur w bk a len cap) {p : Addr} (hp : bk ≠ p.block) (u : Value) : Cur (w.setCell p u) bk a len cap := by
  obtain ⟨i, g, hb, hi⟩ := h
  exact ⟨i, g, (Below.heap_setCell w p u bk hp).trans hb, hi⟩
theorem grownBy_setCell_new {w w' : World} {r : Option Nat} (h : w.grownBy w' r) {p : Addr} (hp : w.heap.size ≤ p.block) (u : Value) : w.grownBy (w'.setCell p u) r :=
  ⟨h.os, h.tape, h.output, by simpa using h.size, fun k hk hne => (Below.heap_setCell w' p u k (by omega)).trans (h.block k hk hne)⟩
/-- A block that was there and is not the cursor's stays. -/
theorem grownBy_block {w w' : World} {bk b : Nat} {o : Obj} (hg : w.grownBy w' (some bk)) (h : w.heap[b]? = some o) (hne : b ≠ bk) : w'.heap[b]? = some o :=
  (hg.block b (lt_of_block h) (by simpa using hne)).trans h
end Go.Proofs.Ytdogibjgogcdkab.draw
namespace Go.Proofs.Ytdogibjgogcdkab.draw
open Go.RowKit

theorem once_any {W w : World} {bk : Nat} {a : Option Addr} {len cap : Nat} {zs : List Int} (n : Int) (hr : IsRow .u8 W a len cap zs) (hW : Below W.heap.size W w) (hbk : W.heap.size ≤ bk) (hc : Cur w bk a len cap) :
    Calls Try.prog 54 #[.pointer (some ⟨bk, 0, none⟩), .int .i64 n] w fun e w' => ∃ b : Bool, e = .returned (.bool b) ∧ w.grownBy w' (some bk) ∧ Cur w' bk a len cap := by
  go_enter Try.func54, Try.ntmps54
  go_wp2_with fail
  refine (below_any n hr hW hbk hc).mono ?_
  rintro e w1 ⟨x, hx0, _, hx1, rfl, hg1, hc1⟩
  go_wp2
  go_ret
  exact ⟨_, rfl, hg1, hc1⟩

theorem from_any {W w : World} {bk : Nat} {a : Option Addr} {len cap : Nat} {zs : List Int} (lo hi : Int) (h1 : -1000 ≤ lo) (h2 : lo ≤ hi) (h3 : hi ≤ 1000) (hr : IsRow .u8 W a len cap zs) (hW : Below W.heap.size W w) (hbk : W.heap.size ≤ bk) (hc : Cur w bk a len cap) :
    Calls Try.prog 89 #[.pointer (some ⟨bk, 0, none⟩), .int .i64 lo, .int .i64 hi] w fun e w' => ∃ x : Int, lo ≤ x ∧ x ≤ hi ∧ e = .returned (.int .i64 x) ∧ w.grownBy w' (some bk) ∧ Cur w' bk a len cap := by
  go_enter Try.func89, Try.ntmps89
  go_wp2_with fail
  refine (below_any _ hr hW hbk hc).mono ?_
  rintro e w1 ⟨x, hx0, _, hx1, rfl, hg1, hc1⟩
  have hx2 := hx1 (by omega)
  clear hx1
  go_wp2
  go_ret
  exact ⟨_, by omega, by omega, rfl, hg1, hc1⟩

end Go.Proofs.Ytdogibjgogcdkab.draw
namespace Go.Proofs.Ytdogibjgogcdkab.gr
open Go.RowKit rows heads draw
set_option maxRecDepth 100000
set_option linter.unusedVariables false

theorem ch_cur {w w' : World} {bk : Nat} (h : w.grownBy w' (some bk)) : Ch [bk] w w' := ⟨h.os, h.tape, h.output, h.size, fun k hk hn => h.block k hk (fun e => hn (by cases e; simp))⟩
theorem ownG_cur {w w' : World} {base bk : Nat} {o r m : Value} {ms : List MO} {G : Gr} (O : OwnG w base o r m ms G) (hb : bk < base) (hg : w.grownBy w' (some bk)) : OwnG w' base o r m ms G :=
  ownG_ch O (ch_cur hg) (fun k hk e => by have := (ownG_lt O k hk).1; rw [List.mem_singleton] at e; omega)
theorem held_cur {w w' : World} {base bk P : Nat} {G : Gr} (H : Held w base P G) (hb : bk < base) (hg : w.grownBy w' (some bk)) : Held w' base P G := by
  obtain ⟨o, r, m, ms, T, O, N, hP⟩ := H
  exact ⟨o, r, m, ms, five_ch T (ch_cur hg) (fun e => by rw [List.mem_singleton] at e; omega), ownG_cur O hb hg, N, hP⟩
theorem cur_below {w w' : World} {bk base : Nat} {a : Option Addr} {len cap : Nat} (h : Cur w bk a len cap) (hb : Below base w w') (hl : bk < base) : Cur w' bk a len cap := by
  obtain ⟨i, x, h1, h2⟩ := h
  exact ⟨i, x, (hb.block bk hl).trans h1, h2⟩
theorem grown_bel {w w' : World} {base : Nat} (hb : Below base w w') (hl : w.heap.size ≤ base) (r : Option Nat) : w.grownBy w' r := ⟨hb.os, hb.tape, hb.output, hb.size, fun k hk _ => hb.block k (by omega)⟩
def RfAt (w : World) (b : Nat) (e : Rf) : Prop := w.heap[b]? = some (.cells #[.int .i64 e.1, .int .i64 e.2] 67 (0, 0))
theorem rfAt_cells {w : World} {b : Nat} {e : Rf} (h : RfAt w b e) : w.cell? ⟨b, 0, none⟩ = some (.int .i64 e.1) ∧ w.cell? ⟨b, 1, none⟩ = some (.int .i64 e.2) ∧ ∀ k, w.frozen? ⟨b, k, none⟩ = false := by
  unfold RfAt at h
  refine ⟨?_, ?_, fun k => ?_⟩
  all_goals simp [World.cell?, World.frozen?, h]
theorem rfAt_new (w : World) (e : Rf) : RfAt (w.alloc (rb e)) w.heap.size e := heap_alloc_new w _
theorem rfAt_sets {w : World} {b : Nat} {e : Rf} (h : RfAt w b e) (x y : Int) : RfAt ((w.setCell ⟨b, 0, none⟩ (.int .i64 x)).setCell ⟨b, 1, none⟩ (.int .i64 y)) b (x, y) := (cells_setCell ((cells_setCell h 0 (.int .i64 x))) 1 (.int .i64 y)).trans (by simp)
theorem rfAt_cur {w w' : World} {b bk : Nat} {e : Rf} (h : RfAt w b e) (hne : b ≠ bk) (hg : w.grownBy w' (some bk)) : RfAt w' b e := (hg.block b (lt_of_block h) (fun e => by cases e; exact hne rfl)).trans h
theorem res_ref {fn : Func} {tmps : Array Value} {X : World} {j b : Nat} {x y : Int} (hf : fn.results = #[.cell j 67]) (h2 : tmps[j]? = some (.pointer (some ⟨b, 0, none⟩))) (hX : RfAt X b (x, y)) :
    (results fn tmps).run Try.prog X = .ok (rv (x, y)) X := by
  obtain ⟨k0, k1, _⟩ := rfAt_cells hX
  clear hX
  simp [results, hf, h2, go_sem, k0, k1]

set_option maxHeartbeats 8000000 in
theorem drawRef_any {W w : World} {bk : Nat} {a : Option Addr} {len cap : Nat} {zs : List Int} (hr : IsRow .u8 W a len cap zs) (hW : Below W.heap.size W w) (hbk : W.heap.size ≤ bk) (hc : Cur w bk a len cap) {base : Nat} {o r m : Value} {ms : List MO} {G : Gr} (O : OwnG w base o r m ms G) (hl : ms.length ≤ 1048576) (hb : bk < base) :
    Calls Try.prog 168 #[.pointer (some ⟨bk, 0, none⟩), gv o r m G.next G.seed] w fun e w' => ∃ f : Rf, e = .returned (rv f) ∧ w.grownBy w' (some bk) ∧ Cur w' bk a len cap := by
  obtain ⟨o1, o2, o3, r1, r2, r3, m1, m2, m3, e1, e2, e3⟩ := graphAt_slices (ownG_at O)
  subst e1 e2 e3
  have el : o2 = ms.length := by obtain ⟨⟨a0, c0, e, _⟩, _⟩ := ownO_at O.2.1; injection e
  subst el
  have step : ∀ {V V' : World}, Below W.heap.size W V → V.grownBy V' (some bk) → Below W.heap.size W V' := fun h hg => h.grown hg h.size (fun k e => by cases e; exact hbk)
  obtain ⟨X, hX⟩ : ∃ X, X = (w.alloc (gb (.slice o1 ms.length o3) (.slice r1 r2 r3) (.slice m1 m2 m3) G.next G.seed)).alloc (rb refD) := ⟨_, rfl⟩
  have BX : Below w.heap.size w X := by rw [hX]; exact ((Below.refl _ w).alloc (Nat.le_refl _) _).alloc (by simp) _
  have TX : Five X w.heap.size 55 (.slice o1 ms.length o3) (.slice r1 r2 r3) (.slice m1 m2 m3) (.int .i64 G.next) (.int .i64 G.seed) := by rw [hX]; exact five_below (five_new w _ _ _ _ _ _) ((Below.refl _ _).alloc (Nat.le_refl _) _)
  have RX : RfAt X (w.heap.size + 1) refD := by
    have := rfAt_new (w.alloc (gb (.slice o1 ms.length o3) (.slice r1 r2 r3) (.slice m1 m2 m3) G.next G.seed)) refD
    rw [hX]
    rw [show (w.alloc (gb (.slice o1 ms.length o3) (.slice r1 r2 r3) (.slice m1 m2 m3) G.next G.seed)).heap.size = w.heap.size + 1 by simp] at this
    exact this
  have CX : Cur X bk a len cap := by rw [hX]; exact cur_alloc (cur_alloc hc _) _
  have GX : w.grownBy X (some bk) := grown_bel BX (Nat.le_refl _) _
  have lbk := cur_lt hc
  have OX := ownG_below O BX
  have WX := step hW GX
  obtain ⟨u0, _, _, _, _, _⟩ := five_cells TX
  have HTX : Hid _ := TX
  have HRX : Hid _ := RX
  have HCX : Hid _ := CX
  have HGX : Hid _ := GX
  have HOX : Hid _ := OX
  have HWX : Hid _ := WX
  -- the end: whatever is stored
  have FIN : Hid (∀ (V : World) (x y : Int), X.grownBy V (some bk) → Cur V bk a len cap → (RfAt V (w.heap.size + 1) refD) → (RfAt ((V.setCell ⟨w.heap.size + 1, 0, none⟩ (.int .i64 x)).setCell ⟨w.heap.size + 1, 1, none⟩ (.int .i64 y)) (w.heap.size + 1) (x, y) ∧ w.grownBy ((V.setCell ⟨w.heap.size + 1, 0, none⟩ (.int .i64 x)).setCell ⟨w.heap.size + 1, 1, none⟩ (.int .i64 y)) (some bk) ∧ Cur ((V.setCell ⟨w.heap.size + 1, 0, none⟩ (.int .i64 x)).setCell ⟨w.heap.size + 1, 1, none⟩ (.int .i64 y)) bk a len cap)) := fun V x y hg hcV hRV => ⟨rfAt_sets hRV x y, grownBy_setCell_new (grownBy_setCell_new (grownBy_trans HGX.out hg) (p := ⟨w.heap.size + 1, 0, none⟩) (by show w.heap.size ≤ w.heap.size + 1; omega) _) (p := ⟨w.heap.size + 1, 1, none⟩) (by show w.heap.size ≤ w.heap.size + 1; omega) _, cur_setCell (cur_setCell hcV (p := ⟨w.heap.size + 1, 0, none⟩) (by show bk ≠ w.heap.size + 1; omega) _) (p := ⟨w.heap.size + 1, 1, none⟩) (by show bk ≠ w.heap.size + 1; omega) _⟩
  have HKEEP : Hid (∀ V, X.grownBy V (some bk) → RfAt V (w.heap.size + 1) refD ∧ Below W.heap.size W V) := fun V hg => ⟨rfAt_cur HRX.out (by omega) hg, step HWX.out hg⟩
  clear TX RX CX GX OX WX O hc
  -- the second half: nothing, or a number
  have HALF : Hid (∀ V, X.grownBy V (some bk) → Cur V bk a len cap → True) := fun _ _ _ => trivial
  clear HALF
  go_enter Try.func168, Try.ntmps168
  by_cases h0 : ms.length = 0
  · have h0' : ¬ (ms.length : Int) > 0 := by omega
    clear h0
    go_wp2_with fail
    rw [← hX]
    clear hX
    refine (once_any 2 hr HWX.out hbk HCX.out).mono ?_
    rintro e w1 ⟨b1, rfl, hg1, hc1⟩
    obtain ⟨rk, bw⟩ := HKEEP.out _ hg1
    cases b1
    · have HG1 : Hid _ := hg1
      go_wp2_with fail
      refine (below_any 20 hr bw hbk hc1).mono ?_
      rintro e w2 ⟨x, x0, _, x1, rfl, hg2, hc2⟩
      have x2 := x1 (by decide)
      have hg3 := grownBy_trans HG1.out hg2
      obtain ⟨rk2, _⟩ := HKEEP.out _ hg3
      obtain ⟨p0, p1, pf⟩ := rfAt_cells rk2
      have pf0 := pf 0
      have pf1 := pf 1
      obtain ⟨R, A, B⟩ := FIN.out w2 1 (x - 10) hg3 hc2 rk2
      have HR : Hid _ := R
      have HA : Hid _ := A
      have HB : Hid _ := B
      clear R A B pf x1 hg2 hc2 hg3 rk rk2 bw hc1 hg1 u0
      go_wp2
      exact bodyPost_ret (res_ref rfl rfl HR.out) rfl ⟨_, rfl, HA.out, HB.out⟩
    · obtain ⟨p0, p1, pf⟩ := rfAt_cells rk
      have pf0 := pf 0
      have pf1 := pf 1
      obtain ⟨R, A, B⟩ := FIN.out w1 0 0 hg1 hc1 rk
      have HR : Hid _ := R
      have HA : Hid _ := A
      have HB : Hid _ := B
      clear R A B pf hg1 hc1 rk bw u0
      go_wp2
      exact bodyPost_ret (res_ref rfl rfl HR.out) rfl ⟨_, rfl, HA.out, HB.out⟩
  have h0' : (ms.length : Int) > 0 := by omega
  clear h0
  go_wp2_with fail
  rw [← hX]
  clear hX
  refine (once_any 3 hr HWX.out hbk HCX.out).mono ?_
  rintro e w0 ⟨b0, rfl, hg0, hc0⟩
  obtain ⟨rk0, bw0⟩ := HKEEP.out _ hg0
  have HG0 : Hid _ := hg0
  cases b0
  case true =>
    go_wp2_with fail
    refine (once_any 2 hr bw0 hbk hc0).mono ?_
    rintro e w1 ⟨b1, rfl, hg1, hc1⟩
    have hg1 := grownBy_trans HG0.out hg1
    obtain ⟨rk, bw⟩ := HKEEP.out _ hg1
    cases b1
    · have HG1 : Hid _ := hg1
      clear hg0 hc0 rk0 bw0
      go_wp2_with fail
      refine (below_any 20 hr bw hbk hc1).mono ?_
      rintro e w2 ⟨x, x0, _, x1, rfl, hg2, hc2⟩
      have x2 := x1 (by decide)
      have hg3 := grownBy_trans HG1.out hg2
      obtain ⟨rk2, _⟩ := HKEEP.out _ hg3
      obtain ⟨p0, p1, pf⟩ := rfAt_cells rk2
      have pf0 := pf 0
      have pf1 := pf 1
      obtain ⟨R, A, B⟩ := FIN.out w2 1 (x - 10) hg3 hc2 rk2
      have HR : Hid _ := R
      have HA : Hid _ := A
      have HB : Hid _ := B
      clear R A B pf x1 hg2 hc2 hg3 rk rk2 bw hc1 hg1 u0
      go_wp2
      exact bodyPost_ret (res_ref rfl rfl HR.out) rfl ⟨_, rfl, HA.out, HB.out⟩
    · obtain ⟨p0, p1, pf⟩ := rfAt_cells rk
      have pf0 := pf 0
      have pf1 := pf 1
      obtain ⟨R, A, B⟩ := FIN.out w1 0 0 hg1 hc1 rk
      have HR : Hid _ := R
      have HA : Hid _ := A
      have HB : Hid _ := B
      clear R A B pf hg1 hc1 rk bw u0 hg0 hc0 rk0 bw0
      go_wp2
      exact bodyPost_ret (res_ref rfl rfl HR.out) rfl ⟨_, rfl, HA.out, HB.out⟩
  case false =>
    obtain ⟨u0', _, _, _, _, _⟩ := five_cells (five_ch HTX.out (ch_cur hg0) (fun e => by rw [List.mem_singleton] at e; omega))
    have HKO : Hid (∀ V, X.grownBy V (some bk) → ∀ x : Int, 0 ≤ x → x < ms.length → ∃ q, o1 = some ⟨q, 0, none⟩ ∧ ∃ i, V.cell? ⟨q, x.toNat * 5, none⟩ = some (.int .i64 i)) := fun V hg x x0 x1 => by
      have OV := ownG_cur HOX.out hb hg
      obtain ⟨_, ⟨h1, h2⟩ | ⟨g', cap', cur, h1, _⟩⟩ := OV.2.1.1
      · omega
      · injection h1 with e1 e2 e3
        obtain ⟨⟨a0, c0, e, _, _, _, hco⟩, _⟩ := ownO_at OV.2.1
        injection e with e4 e5 e6
        obtain ⟨b', off', e7, _, hcc⟩ := hco (by omega)
        have := e4.trans e7
        rw [e1] at this
        injection this with this
        injection this with e8 e9
        obtain ⟨y0, _⟩ := hcc x.toNat (by omega)
        rw [← e8, ← e9] at y0
        simp only [Nat.zero_add] at y0
        exact ⟨g', e1, _, y0⟩
    obtain ⟨q, rfl, _⟩ := HKO.out w0 hg0 0 (Int.le_refl _) (by omega)
    have HKP : Hid (∀ V, X.grownBy V (some bk) → ∀ k : Nat, (k : Int) < ms.length → ∃ i, V.cell? ⟨q, k * 5, none⟩ = some (.int .i64 i)) := fun V hg k hk => by
      obtain ⟨q', e, i, hi⟩ := HKO.out V hg (k : Int) (by omega) hk
      injection e with e
      injection e with e
      subst e
      exact ⟨i, by simpa using hi⟩
    have D0 : X.grownBy w0.drew (some bk) := grownBy_drew hg0
    obtain ⟨_, bw1⟩ := HKEEP.out _ D0
    have HC0 : Hid _ := cur_drew hc0
    have HBW : Hid _ := bw1
    have HD0 : Hid _ := D0
    have HTK : Hid (∀ V, X.grownBy V (some bk) → V.cell? ⟨w.heap.size, 0, none⟩ = some (.slice (some ⟨q, 0, none⟩) ms.length o3)) := fun V hg => (five_cells (five_ch HTX.out (ch_cur hg) (fun e => by rw [List.mem_singleton] at e; omega))).1
    clear hg0 hc0 rk0 bw0 HG0 HKO bw1 D0 u0
    go_wp2_with fail
    go_region_law (go_simp; go_at_call 52; refine (below_any (ms.length : Int) hr HBW.out hbk HC0.out).mono ?_; rintro e w1 ⟨x, x0, _, x1, rfl, hg1, hc1⟩; have x2 := x1 h0'; obtain ⟨k, rfl⟩ := Int.eq_ofNat_of_zero_le x0; have hg2 := grownBy_trans HD0.out hg1; obtain ⟨ii, hii⟩ := HKP.out _ hg2 k x2; have u1 := HTK.out _ hg2; obtain ⟨rk2, _⟩ := HKEEP.out _ hg2; obtain ⟨p0, p1, pf⟩ := rfAt_cells rk2; have pf0 := pf 0; have pf1 := pf 1; have HFN : Hid _ := FIN.out w1 2 ii hg2 hc1 rk2; clear x1 hg1 hc1 hg2 rk2 pf)
    all_goals go_wp2
    all_goals exact bodyPost_ret (res_ref rfl rfl HFN.out.1) rfl ⟨⟨_, _, rfl⟩, HFN.out.2.1, HFN.out.2.2⟩
end Go.Proofs.Ytdogibjgogcdkab.gr
namespace Go.Proofs.Ytdogibjgogcdkab.gr
open Go.RowKit rows heads
set_option maxRecDepth 100000

/-- A new graph. -/
def gNew (x : Int) : Gr × Bool := if inR 0 65535 x = true then (⟨[], List.replicate 6 refD, [], 1, x⟩, true) else (gr0, false)
theorem hR_New (x : Int) : Small (gNew x).1 := by
  unfold gNew
  split
  · intro rs er
    have e : rs = [] := by simpa using er
    subst e
    exact (by decide : gSize [] (⟨[], List.replicate 6 refD, [], 1, 0⟩ : Gr) ≤ 1048576)
  · exact small_zero
set_option maxHeartbeats 4000000 in
theorem sNewGraph_any (x : Int) (w : World) :
    Calls Try.prog 167 #[.int .i64 x] w fun e w' => ∃ o' r' m' rs, e = .returned (.tuple #[gv o' r' m' (gNew x).1.next (gNew x).1.seed, .bool (gNew x).2]) ∧ OwnG w' w.heap.size o' r' m' rs (gNew x).1 ∧ Below w.heap.size w w' := by
  obtain ⟨i0, hi, hz0, hz1, hz2⟩ := info_parts infoR
  have T0 := five_new w 55 (.slice none 0 0) (.slice none 0 0) (.slice none 0 0) (.int .i64 0) (.int .i64 0)
  have B0 : Below w.heap.size w (w.alloc (gb (.slice none 0 0) (.slice none 0 0) (.slice none 0 0) 0 0)) := (Below.refl _ w).alloc (Nat.le_refl _) _
  have sX : w.heap.size < (w.alloc (gb (.slice none 0 0) (.slice none 0 0) (.slice none 0 0) 0 0)).heap.size := by simp
  have T0' : Five (w.alloc (gb (.slice none 0 0) (.slice none 0 0) (.slice none 0 0) 0 0)) w.heap.size 55 (.slice none 0 0) (.slice none 0 0) (.slice none 0 0) (.int .i64 0) (.int .i64 0) := T0
  have IN := l1In_any x 0 65535
  generalize hn0 : w.heap.size = n0 at *
  have HT0 : Hid _ := T0'
  have HB0 : Hid _ := B0
  clear T0 T0' B0
  cases d : inR 0 65535 x
  · have e : gNew x = (gr0, false) := by unfold gNew; rw [d]; rfl
    rw [e]
    rw [d] at IN
    clear e d hi hz0 hz1 hz2
    go_enter Try.func167, Try.ntmps167
    go_wp2_with fail
    generalize (w.alloc (gb (.slice none 0 0) (.slice none 0 0) (.slice none 0 0) 0 0)) = X at *
    refine (IN _).mono ?_
    rintro e w3 ⟨rfl, hw3⟩
    rw [hw3]
    clear hw3 w3
    obtain ⟨v0, v1, v2, v3, v4, vf⟩ := five_cells HT0.out
    have g0 := vf 0
    have g1 := vf 1
    have g2 := vf 2
    have g3 := vf 3
    have g4 := vf 4
    have HTX : Hid _ := five_sets HT0.out (.slice none 0 0) (.slice none 0 0) (.slice none 0 0) (.int .i64 0) (.int .i64 0)
    have HBX : Hid _ := five_belows HB0.out (Nat.le_refl n0) (.slice none 0 0) (.slice none 0 0) (.slice none 0 0) (.int .i64 0) (.int .i64 0)
    clear vf IN
    go_wp2
    exact bodyPost_ret (res_gr2 rfl rfl rfl HTX.out) rfl ⟨_, _, _, [], rfl, ownG_zero _ _, HBX.out⟩
  · have e : gNew x = (⟨[], List.replicate 6 refD, [], 1, x⟩, true) := by unfold gNew; rw [d]; rfl
    rw [e]
    rw [d] at IN
    obtain ⟨RG, hRG⟩ : ∃ RG : Gr, ⟨[], List.replicate 6 refD, [], 1, x⟩ = RG := ⟨_, rfl⟩
    rw [hRG]
    have HRG : Hid _ := hRG
    clear e d hRG
    go_enter Try.func167, Try.ntmps167
    go_wp2_with fail
    generalize (w.alloc (gb (.slice none 0 0) (.slice none 0 0) (.slice none 0 0) 0 0)) = X at *
    refine (IN _).mono ?_
    rintro e w3 ⟨rfl, hw3⟩
    rw [hw3]
    clear hw3 w3
    clear IN
    have sX' : n0 ≤ X.heap.size := by omega
    go_wp2_with (at_make; refine wpList_make_full _ rfl _ _ 53 rfl n0 67 i0 (.agg #[.int .i64 0, .int .i64 0]) 2 Try.underlying53 hi hz0 hz1 _ _ _ _ 6 rfl rfl rfl rfl (by rw [hz2]; omega) (by decide) sX' ?_; intro w1 hown hgrow; have HO : Hid _ := hown; have HG : Hid _ := hgrow; clear hown hgrow; refine Hid.out ?_)
    have BX : Below X.heap.size X w1 := (Below.refl _ _).grown HG.out (Nat.le_refl _) (fun k e => by cases e)
    have T1 := five_below HT0.out BX
    have B1 := HB0.out.trans (BX.mono sX')
    have O1 : OwnR w1 n0 (.slice (some ⟨X.heap.size, 0, none⟩) 6 6) (List.replicate 6 refD) := by
      have := HO.out
      rw [show (Value.agg #[.int .i64 0, .int .i64 0]).cells = #[.int .i64 0, .int .i64 0] from rfl, made_refs] at this
      exact this
    have OG : OwnG w1 n0 (.slice none 0 0) (.slice (some ⟨X.heap.size, 0, none⟩) 6 6) (.slice none 0 0) [] ⟨[], List.replicate 6 refD, [], 1, x⟩ := ⟨rfl, ownO_nil w1 n0, O1, ownR_nil w1 n0, by simp [gblk, blk, blks, Value.ownBlock]⟩
    obtain ⟨v0, v1, v2, v3, v4, vf⟩ := five_cells T1
    have g0 := vf 0
    have g1 := vf 1
    have g2 := vf 2
    have g3 := vf 3
    have g4 := vf 4
    have HTX : Hid _ := five_sets T1 (.slice none 0 0) (.slice (some ⟨X.heap.size, 0, none⟩) 6 6) (.slice none 0 0) (.int .i64 1) (.int .i64 x)
    have HBX : Hid _ := five_belows B1 (Nat.le_refl n0) (.slice none 0 0) (.slice (some ⟨X.heap.size, 0, none⟩) 6 6) (.slice none 0 0) (.int .i64 1) (.int .i64 x)
    have HOW : Hid _ := ownG_ch OG (five_other (X := w1) (b := n0) (.slice none 0 0) (.slice (some ⟨X.heap.size, 0, none⟩) 6 6) (.slice none 0 0) (.int .i64 1) (.int .i64 x)) (fun k hk e => by simp [gblk, blk, blks, Value.ownBlock] at hk; rw [List.mem_singleton] at e; omega)
    clear vf HO HG BX T1 B1 O1 OG HT0 HB0 hi hz0 hz1 hz2
    refine Go.Lib.hid ?_
    go_wp2
    first
      | exact bodyPost_ret (res_gr2 rfl rfl rfl HTX.out) rfl ⟨_, _, _, [], by rw [← HRG.out], by rw [← HRG.out]; exact HOW.out, HBX.out⟩
      | exact bodyPost_ret (res_gr2 rfl rfl rfl HTX.out) rfl ⟨_, _, _, by rw [← HRG.out], ⟨[], by rw [← HRG.out]; exact HOW.out⟩, HBX.out⟩
end Go.Proofs.Ytdogibjgogcdkab.gr
namespace Go.Proofs.Ytdogibjgogcdkab.gr
open Go.RowKit rows heads
set_option maxRecDepth 100000

theorem rowR_form {w : World} {base n : Nat} {v : Value} {xs : List Value} (h : w.ownsRow base 67 2 v n xs) (hn : 0 < n) : ∃ g c, v = .slice (some ⟨g, 0, none⟩) n c := by
  obtain ⟨_, ⟨_, h0⟩ | ⟨g, cap, cur, h1, _⟩⟩ := h
  · omega
  · exact ⟨g, cap, h1⟩
theorem held_obj {w : World} {base P : Nat} {G : Gr} (H : Held w base P G) {i : Nat} (hi : i < G.objs.length) :
    ∃ q0 c0 r1 r2 r3 m1 m2 m3 ms sa sc, Five w P 55 (.slice (some ⟨q0, 0, none⟩) G.objs.length c0) (.slice r1 r2 r3) (.slice m1 m2 m3) (.int .i64 G.next) (.int .i64 G.seed) ∧ OwnG w base (.slice (some ⟨q0, 0, none⟩) G.objs.length c0) (.slice r1 r2 r3) (.slice m1 m2 m3) ms G ∧ P ∉ gblk (.slice (some ⟨q0, 0, none⟩) G.objs.length c0) (.slice r1 r2 r3) (.slice m1 m2 m3) ms ∧ base ≤ P ∧ i < ms.length ∧ (ms.getD i moD).sv = .slice sa (G.objs.getD i obD).slots.length sc ∧ w.cell? ⟨q0, i * 5, none⟩ = some (.int .i64 (ms.getD i moD).id) ∧ w.cell? ⟨q0, i * 5 + 4, none⟩ = some (.slice sa (G.objs.getD i obD).slots.length sc) := by
  obtain ⟨o, r, m, ms, T, O, N, hb⟩ := H
  obtain ⟨o1, o2, o3, r1, r2, r3, m1, m2, m3, e1, e2, e3⟩ := graphAt_slices (ownG_at O)
  subst e1 e2 e3
  have hlm := own_len O
  obtain ⟨_, ⟨h1, h2⟩ | ⟨g', cap', cur, h1, _⟩⟩ := O.2.1.1
  · omega
  injection h1 with e1 e2 e3
  subst e1 e2 e3
  obtain ⟨⟨a0, c0, e, _, _, _, hco⟩, hrefs⟩ := ownO_at O.2.1
  injection e with e4 e5 e6
  obtain ⟨b', off', e7, _, hcc⟩ := hco (by omega)
  have e8 := e4.trans e7
  injection e8 with e8
  injection e8 with e8 e9
  obtain ⟨y0, _, _, _, y4⟩ := hcc i (by omega)
  rw [← e8, ← e9] at y0 y4
  simp only [Nat.zero_add] at y0 y4
  obtain ⟨sa, sc, hsv, _⟩ := hrefs _ (mem_getD (ms := ms) (i := i) (by omega))
  rw [own_abs O i] at hsv
  rw [hsv] at y4
  rw [hlm] at T O N
  exact ⟨g', _, r1, r2, r3, m1, m2, m3, ms, sa, sc, T, O, N, hb, by omega, hsv, y0, y4⟩

end Go.Proofs.Ytdogibjgogcdkab.gr
