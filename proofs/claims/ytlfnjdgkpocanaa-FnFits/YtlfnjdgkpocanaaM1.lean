/-
  The cursor over the bytes of a draw: what its functions return and what they write: the cursor's own block alone. A new cursor over the bytes of a draw: it lies in one new block. Small laws of the cursor: it stays where other blocks are made or written; a drawn yes or no; a drawn number between two. A drawn yes or no; a drawn number between two. A drawn word: some 64-bit number; the cursor goes on. The draws of chapter 3: a row of the call's own, places and words; nothing that was there is written, but for the cursor's own block. The draws of chapter 3, going on: places; the arguments of each of its functions.
-/
import Derived.Test.YtlfnjdgkpocanaaRows
import Derived.WalkKit
import Derived.WalkSpells
import Derived.WalkLawsBesides
import Derived.OpenShut
import Derived.Below
import Derived.Deep.QuietTactic
import Derived.BigQuiet
import Derived.LoopTactic
import Derived.LoopN
import Derived.Test.YtlfnjdgkpocanaaInts
namespace Go.Proofs.Ytlfnjdgkpocanaa.draw
open Go.RowKit

/-- A slice of numbers that came in: nil, or a row of cells. -/
def IsRow (k : IntKind) (w : World) (a : Option Addr) (len cap : Nat) (zs : List Int) : Prop :=
  (a = none ∧ len = 0 ∧ cap = 0 ∧ zs = []) ∨
  ∃ x, a = some x ∧ len ≤ cap ∧ cap ≤ maxLen ∧ zs.length = cap ∧ (∀ i, i < zs.length → w.cell? (x.add i) = some (.int k (zs.getD i 0))) ∧ ∀ n ∈ zs, (Lit.int k n).wf = true

theorem mask (n : Int) (i : Nat) (hi : i ≤ 62) (m : Int) (hm : m = 2 ^ i - 1) : bits .and .i64 n m = n % 2 ^ i := by
  subst hm
  have hp : 0 < 2 ^ i := Nat.two_pow_pos i
  have hc : ((2 : Int) ^ i - 1) = ((2 ^ i - 1 : Nat) : Int) := by
    rw [Int.natCast_sub hp]; simp
  have hle : 2 ^ i ≤ 2 ^ 62 := Nat.pow_le_pow_right (by decide) hi
  have h3 : (BitVec.ofInt 64 ((2 : Int) ^ i - 1)).toNat = 2 ^ i - 1 := by
    rw [hc, BitVec.ofInt_natCast, BitVec.toNat_ofNat, Nat.mod_eq_of_lt]
    have : (2 : Nat) ^ 62 < 2 ^ 64 := by decide
    omega
  have key : (BitVec.ofInt 64 n &&& BitVec.ofInt 64 ((2 : Int) ^ i - 1)).toNat = (n % ((2 ^ 64 : Nat) : Int)).toNat % 2 ^ i := by
    rw [BitVec.toNat_and, BitVec.toNat_ofInt, h3, Nat.and_two_pow_sub_one_eq_mod]
  show IntKind.i64.wrap ((BitVec.ofInt 64 n &&& BitVec.ofInt 64 ((2 : Int) ^ i - 1)).toNat : Nat) = n % 2 ^ i
  rw [key, IntKind.wrap_i64]
  have hd : ((2 ^ i : Nat) : Int) ∣ ((2 ^ 64 : Nat) : Int) := by
    exact_mod_cast Nat.pow_dvd_pow 2 (by omega : i ≤ 64)
  have e1 : (((n % ((2 ^ 64 : Nat) : Int)).toNat % 2 ^ i : Nat) : Int) = n % ((2 ^ i : Nat) : Int) := by
    rw [Int.natCast_emod, Int.toNat_of_nonneg (Int.emod_nonneg _ (by decide)), Int.emod_emod_of_dvd _ hd]
  rw [e1]
  have h0 : 0 ≤ n % ((2 ^ i : Nat) : Int) := Int.emod_nonneg _ (by omega)
  have h1 : n % ((2 ^ i : Nat) : Int) < ((2 ^ i : Nat) : Int) := Int.emod_lt_of_pos _ (by omega)
  have h2 : ((2 ^ i : Nat) : Int) ≤ 4611686018427387904 := by
    have : (2 : Nat) ^ 62 = 4611686018427387904 := by decide
    omega
  have e2 : ((2 ^ i : Nat) : Int) = 2 ^ i := by simp
  rw [← e2]
  omega

theorem and255 (n : Int) : bits .and .i64 n 255 = n % 256 := mask n 8 (by decide) 255 (by decide)
theorem and30 (n : Int) : bits .and .i64 n 1073741823 = n % 1073741824 := mask n 30 (by decide) 1073741823 (by decide)

/-- The cursor's block: the slice, how far it has come, the number that is mixed on. -/
def Cur (w : World) (bk : Nat) (a : Option Addr) (len cap : Nat) : Prop :=
  ∃ (i : Nat) (h : Int), w.heap[bk]? = some (.cells #[.slice a len cap, .int .i64 (i : Int), .int .i64 h] 61 (0, 0)) ∧ i ≤ len

theorem three_setCell {w : World} {b : Nat} {c : Array Value} {t : TypeId} (h : w.heap[b]? = some (.cells c t (0, 0))) (k : Nat) (u : Value) :
    (w.setCell ⟨b, k, none⟩ u).heap[b]? = some (.cells (c.setIfInBounds k u) t (0, 0)) := by
  have hlt := lt_of_block h
  have h' : w.heap[b] = .cells c t (0, 0) := by simpa [Array.getElem?_eq_getElem hlt] using h
  show (w.heap.modify b _)[b]? = _
  rw [Array.getElem?_eq_getElem (by simpa using hlt), Array.getElem_modify_self, h']
  rfl

theorem grownBy_refl (w : World) (r : Option Nat) : w.grownBy w r := ⟨rfl, rfl, rfl, Nat.le_refl _, fun _ _ _ => rfl⟩
theorem grownBy_drewN {w w' : World} {r : Option Nat} (h : w.grownBy w' r) (n : Nat) : w.grownBy (w'.drewN n) r := ⟨h.os, h.tape, h.output, h.size, h.block⟩
theorem grownBy_drew {w w' : World} {r : Option Nat} (h : w.grownBy w' r) : w.grownBy w'.drew r := ⟨h.os, h.tape, h.output, h.size, h.block⟩
theorem grownBy_setCell {w w' : World} {b : Nat} (h : w.grownBy w' (some b)) (k : Nat) (u : Value) : w.grownBy (w'.setCell ⟨b, k, none⟩ u) (some b) :=
  ⟨h.os, h.tape, h.output, by simpa using h.size, fun k' hk hne => (Below.heap_setCell w' _ u k' (fun e => hne (by simp [e]))).trans (h.block k' hk hne)⟩
theorem grownBy_trans {a b c : World} {r : Option Nat} (h : a.grownBy b r) (k : b.grownBy c r) : a.grownBy c r :=
  ⟨k.os.trans h.os, k.tape.trans h.tape, k.output.trans h.output, Nat.le_trans h.size k.size, fun i hi hne => (k.block i (Nat.lt_of_lt_of_le hi h.size) hne).trans (h.block i hi hne)⟩

theorem cur_drewN {w : World} {bk : Nat} {a : Option Addr} {len cap n : Nat} (h : Cur w bk a len cap) : Cur (w.drewN n) bk a len cap := h
theorem cur_drew {w : World} {bk : Nat} {a : Option Addr} {len cap : Nat} (h : Cur w bk a len cap) : Cur w.drew bk a len cap := h
theorem cur_one {w : World} {bk : Nat} {a : Option Addr} {len cap i : Nat} {h : Int} (hb : w.heap[bk]? = some (.cells #[.slice a len cap, .int .i64 (i : Int), .int .i64 h] 61 (0, 0))) (h' : Int) (hi : i ≤ len) :
    Cur (w.setCell ⟨bk, 2, none⟩ (.int .i64 h')) bk a len cap := ⟨i, h', (three_setCell hb 2 _).trans rfl, hi⟩
theorem cur_two {w : World} {bk : Nat} {a : Option Addr} {len cap i : Nat} {h : Int} (hb : w.heap[bk]? = some (.cells #[.slice a len cap, .int .i64 (i : Int), .int .i64 h] 61 (0, 0))) (h' : Int) (hi : i + 1 ≤ len) :
    Cur ((w.setCell ⟨bk, 2, none⟩ (.int .i64 h')).setCell ⟨bk, 1, none⟩ (.int .i64 ((i : Int) + 1))) bk a len cap :=
  ⟨i + 1, h', (three_setCell (three_setCell hb 2 _) 1 _).trans rfl, hi⟩
theorem rem_le (x n : Int) (h0 : 0 ≤ x) (h1 : x ≤ 4294967295) (hn : 0 < n) : x % n ≤ 4294967295 := by
  by_cases h : n ≤ x
  · have := Int.emod_lt_of_pos x hn
    omega
  · rw [Int.emod_eq_of_lt h0 (by omega)]
    exact h1

theorem byte_any {W w : World} {bk : Nat} {a : Option Addr} {len cap : Nat} {zs : List Int} (hr : IsRow .u8 W a len cap zs) (hW : Below W.heap.size W w) (hbk : W.heap.size ≤ bk) (hc : Cur w bk a len cap) :
    Calls Try.prog 41 #[.pointer (some ⟨bk, 0, none⟩)] w fun e w' => ∃ x : Int, 0 ≤ x ∧ x ≤ 255 ∧ e = .returned (.int .i64 x) ∧ w.grownBy w' (some bk) ∧ Cur w' bk a len cap := by
  obtain ⟨i, h, hb, hi⟩ := hc
  have hm := and255
  have c0 : w.cell? ⟨bk, 0, none⟩ = some (.slice a len cap) := by simp [World.cell?, hb]
  have c1 : w.cell? ⟨bk, 1, none⟩ = some (.int .i64 (i : Int)) := by simp [World.cell?, hb]
  have c2 : w.cell? ⟨bk, 2, none⟩ = some (.int .i64 h) := by simp [World.cell?, hb]
  have f1 : w.frozen? ⟨bk, 1, none⟩ = false := by simp [World.frozen?, hb]
  have f2 : w.frozen? ⟨bk, 2, none⟩ = false := by simp [World.frozen?, hb]
  have HB : Hid (w.heap[bk]? = some (.cells #[.slice a len cap, .int .i64 (i : Int), .int .i64 h] 61 (0, 0))) := hb
  clear hb
  by_cases hlt : i < len
  · rcases hr with ⟨_, h0, _⟩ | ⟨x, rfl, hl, hml, hzl, hcell, hwf⟩
    · omega
    · obtain ⟨b, off, rfl, hcell'⟩ := ints_at hcell (by omega)
      have hlt' : b < W.heap.size := World.block_lt_of_cell? W _ (hcell' i (by omega))
      have hne : ¬ b = bk := by omega
      have hne' : ¬ bk = b := by omega
      have hzb : 0 ≤ zs.getD i 0 ∧ zs.getD i 0 ≤ 255 := by
        have := hwf (zs.getD i 0) (by simp [List.getD_eq_getElem?_getD, List.getElem?_eq_getElem (show i < zs.length by omega)])
        simpa [Lit.wf, IntKind.min, IntKind.max, IntKind.signed, IntKind.bits] using this
      have cz : w.cell? ⟨b, off + i, none⟩ = some (.int .u8 (zs.getD i 0)) := (hW.cell (p := ⟨b, off + i, none⟩) hlt').trans (hcell' i (by omega))
      generalize zs.getD i 0 = z at hzb cz
      obtain ⟨hz0, hz1⟩ := hzb
      unfold maxLen at hml
      clear hcell hcell' hwf hzl hW hbk hlt'
      go_enter Try.func41, Try.ntmps41
      go_wp2
      go_quiet (fail)
      go_wp2
      go_quiet (fail)
      go_wp2
      go_quiet (fail)
      go_wp2
      go_ret
      refine ⟨_, ?_, ?_, rfl, ?_, ?_⟩
      · omega
      · omega
      · repeat (first | exact grownBy_refl _ _ | refine grownBy_drewN ?_ _ | refine grownBy_drew ?_ | refine grownBy_setCell ?_ _ _)
      · repeat (first | exact cur_two HB.out _ (by omega) | refine cur_drewN ?_ | refine cur_drew ?_)
  · clear hW hbk hr
    go_enter Try.func41, Try.ntmps41
    go_wp2
    go_quiet (fail)
    go_wp2
    go_quiet (fail)
    go_wp2
    go_ret
    refine ⟨_, ?_, ?_, rfl, ?_, ?_⟩
    · omega
    · omega
    · repeat (first | exact grownBy_refl _ _ | refine grownBy_drewN ?_ _ | refine grownBy_drew ?_ | refine grownBy_setCell ?_ _ _)
    · repeat (first | exact cur_one HB.out _ hi | refine cur_drewN ?_ | refine cur_drew ?_)

theorem below_any {W w : World} {bk : Nat} {a : Option Addr} {len cap : Nat} {zs : List Int} (n : Int) (hr : IsRow .u8 W a len cap zs) (hW : Below W.heap.size W w) (hbk : W.heap.size ≤ bk) (hc : Cur w bk a len cap) :
    Calls Try.prog 21 #[.pointer (some ⟨bk, 0, none⟩), .int .i64 n] w fun e w' => ∃ x : Int, 0 ≤ x ∧ x ≤ 4294967295 ∧ (0 < n → x < n) ∧ e = .returned (.int .i64 x) ∧ w.grownBy w' (some bk) ∧ Cur w' bk a len cap := by
  have step : ∀ {w' : World}, w.grownBy w' (some bk) → Below W.heap.size W w' := fun hg => hW.grown hg hW.size (fun k e => by cases e; exact hbk)
  by_cases h1 : n ≤ 0
  · go_enter Try.func21, Try.ntmps21
    go_wp2
    go_ret
    exact ⟨0, by omega, by omega, by omega, rfl, grownBy_refl _ _, hc⟩
  · by_cases h2 : n ≤ 256
    · go_enter Try.func21, Try.ntmps21
      go_wp2_with fail
      refine (byte_any hr hW hbk hc).mono ?_
      rintro e w1 ⟨x, hx0, hx1, rfl, hg, hc1⟩
      have hn : ¬ n = 0 := by omega
      go_wp2
      go_ret
      refine ⟨_, ?_, ?_, ?_, rfl, hg, hc1⟩
      · exact Int.emod_nonneg _ hn
      · exact rem_le _ _ (by omega) (by omega) (by omega)
      · intro h
        exact Int.emod_lt_of_pos x h
    · go_enter Try.func21, Try.ntmps21
      go_wp2_with fail
      refine (byte_any hr hW hbk hc).mono ?_
      rintro e w1 ⟨x1, hx1, hy1, rfl, hg1, hc1⟩
      go_wp2_with fail
      refine (byte_any hr (step hg1) hbk hc1).mono ?_
      rintro e w2 ⟨x2, hx2, hy2, rfl, hg2, hc2⟩
      have hg2 := grownBy_trans hg1 hg2
      go_wp2_with fail
      refine (byte_any hr (step hg2) hbk hc2).mono ?_
      rintro e w3 ⟨x3, hx3, hy3, rfl, hg3, hc3⟩
      have hg3 := grownBy_trans hg2 hg3
      go_wp2_with fail
      refine (byte_any hr (step hg3) hbk hc3).mono ?_
      rintro e w4 ⟨x4, hx4, hy4, rfl, hg4, hc4⟩
      have hg4 := grownBy_trans hg3 hg4
      have hn : ¬ n = 0 := by omega
      go_wp2
      go_ret
      refine ⟨_, ?_, ?_, ?_, rfl, hg4, hc4⟩
      · exact Int.emod_nonneg _ hn
      · exact rem_le _ _ (by omega) (by omega) (by omega)
      · intro h
        exact Int.emod_lt_of_pos _ h
end Go.Proofs.Ytlfnjdgkpocanaa.draw
namespace Go.Proofs.Ytlfnjdgkpocanaa.draw
open Go.RowKit

theorem row_cells {W w : World} {a : Option Addr} {len cap : Nat} {zs : List Int} (hr : IsRow .u8 W a len cap zs) (hW : Below W.heap.size W w) (hp : 0 < len) :
    ∃ b off, a = some ⟨b, off, none⟩ ∧ b < W.heap.size ∧ ∀ j, j < len → ∃ z : Int, 0 ≤ z ∧ z ≤ 255 ∧ w.cell? ⟨b, off + j, none⟩ = some (.int .u8 z) := by
  rcases hr with ⟨_, h0, _⟩ | ⟨x, rfl, hl, hml, hzl, hcell, hwf⟩
  · omega
  · obtain ⟨b, off, rfl, hcell'⟩ := ints_at hcell (by omega)
    have hlt' : b < W.heap.size := World.block_lt_of_cell? W _ (hcell' 0 (by omega))
    refine ⟨b, off, rfl, hlt', fun j hj => ?_⟩
    have hzb : 0 ≤ zs.getD j 0 ∧ zs.getD j 0 ≤ 255 := by
      have := hwf (zs.getD j 0) (by simp [List.getD_eq_getElem?_getD, List.getElem?_eq_getElem (show j < zs.length by omega)])
      simpa [Lit.wf, IntKind.min, IntKind.max, IntKind.signed, IntKind.bits] using this
    exact ⟨_, hzb.1, hzb.2, (hW.cell (p := ⟨b, off + j, none⟩) hlt').trans (hcell' j (by omega))⟩

theorem cur_new (w : World) (a : Option Addr) (len cap : Nat) (h : Int) :
    Cur (w.alloc (.cells #[.slice a len cap, .int .i64 0, .int .i64 h] 61)) w.heap.size a len cap :=
  ⟨0, h, heap_alloc_new w _, Nat.zero_le _⟩

theorem new_any {W w : World} {a : Option Addr} {len cap : Nat} {zs : List Int} (hr : IsRow .u8 W a len cap zs) (hW : Below W.heap.size W w) (hlen : len ≤ 4096) :
    Calls Try.prog 17 #[.slice a len cap] w fun e w' => e = .returned (.pointer (some ⟨w.heap.size, 0, none⟩)) ∧ Cur w' w.heap.size a len cap ∧ w'.heap.size = w.heap.size + 1 ∧ Below w.heap.size w w' := by
  have hm := and30
  rcases Nat.eq_zero_or_pos len with h0 | hp
  · subst h0
    clear hr hW hlen
    go_enter Try.func17, Try.ntmps17
    go_wp2
    refine wp_loop_rounds 1 ?_
    rw [rounds_succ]
    go_wp2
    go_ret
    exact ⟨rfl, cur_new _ _ _ _ _, by simp, (Below.refl _ _).alloc (Nat.le_refl _) _⟩
  · obtain ⟨b, off, rfl, hb, hcells⟩ := row_cells hr hW hp
    clear hr hW
    go_enter Try.func17, Try.ntmps17
    go_wp2
    go_loop [3, 4] (fun h i => ∃ (k : Nat) (g : Int), k ≤ len ∧ 0 ≤ g ∧ g ≤ 1073741823 ∧ i = .int .i64 k ∧ h = .int .i64 g) (fun _ i => len - (intOf i).toNat)
    case atStart => exact ⟨0, _, Nat.zero_le _, by omega, by omega, rfl, rfl⟩
    case round =>
      obtain ⟨k, g, hk, hg0, hg1, rfl, rfl⟩ := hrel
      by_cases hlt : k < len
      · obtain ⟨z, hz0, hz1, hz⟩ := hcells k hlt
        clear hcells
        go_wp2
        go_round
        case rel => exact ⟨k + 1, _, by omega, by omega, by omega, by go_num, rfl⟩
        case measure => simp [intOf]; omega
      · clear hcells
        go_wp2
        go_ret
        exact ⟨rfl, cur_new _ _ _ _ _, by simp, (Below.refl _ _).alloc (Nat.le_refl _) _⟩
end Go.Proofs.Ytlfnjdgkpocanaa.draw
namespace Go.Proofs.Ytlfnjdgkpocanaa.draw
open Go.RowKit

theorem cur_alloc {w : World} {bk : Nat} {a : Option Addr} {len cap : Nat} (h : Cur w bk a len cap) (o : Obj) : Cur (w.alloc o) bk a len cap := by
  obtain ⟨i, g, hb, hi⟩ := h
  exact ⟨i, g, (Below.heap_alloc w o bk (lt_of_block hb)).trans hb, hi⟩
theorem cur_lt {w : World} {bk : Nat} {a : Option Addr} {len cap : Nat} (h : Cur w bk a len cap) : bk < w.heap.size := by
  obtain ⟨i, g, hb, hi⟩ := h
  exact lt_of_block hb
theorem grownBy_alloc {w w' : World} {r : Option Nat} (h : w.grownBy w' r) (o : Obj) : w.grownBy (w'.alloc o) r := grownBy_trans h (World.grownBy_alloc w' o r)
theorem lit_cell {w w2 : World} {bk : Nat} {c : Array Value} {t : TypeId} (hg : (w.alloc (.cells c t)).grownBy w2 (some bk)) (hbk : bk < w.heap.size) {k : Nat} {v : Value} (hv : c[k]? = some v) :
    w2.cell? ⟨w.heap.size, k, none⟩ = some v :=
  hg.cell ((World.cell?_alloc_at c t w.heap.size k rfl).trans hv) (by simp; omega)

theorem cur_setCell {w : World} {bk : Nat} {a : Option Addr} {len cap : Nat} (h : Cur w bk a len cap) {p : Addr} (hp : bk ≠ p.block) (u : Value) : Cur (w.setCell p u) bk a len cap := by
  obtain ⟨i, g, hb, hi⟩ := h
  exact ⟨i, g, (Below.heap_setCell w p u bk hp).trans hb, hi⟩
theorem grownBy_setCell_new {w w' : World} {r : Option Nat} (h : w.grownBy w' r) {p : Addr} (hp : w.heap.size ≤ p.block) (u : Value) : w.grownBy (w'.setCell p u) r :=
  ⟨h.os, h.tape, h.output, by simpa using h.size, fun k hk hne => (Below.heap_setCell w' p u k (by omega)).trans (h.block k hk hne)⟩
/-- A block that was there and is not the cursor's stays. -/
theorem grownBy_block {w w' : World} {bk b : Nat} {o : Obj} (hg : w.grownBy w' (some bk)) (h : w.heap[b]? = some o) (hne : b ≠ bk) : w'.heap[b]? = some o :=
  (hg.block b (lt_of_block h) (by simpa using hne)).trans h
end Go.Proofs.Ytlfnjdgkpocanaa.draw
namespace Go.Proofs.Ytlfnjdgkpocanaa.draw
open Go.RowKit

theorem once_any {W w : World} {bk : Nat} {a : Option Addr} {len cap : Nat} {zs : List Int} (n : Int) (hr : IsRow .u8 W a len cap zs) (hW : Below W.heap.size W w) (hbk : W.heap.size ≤ bk) (hc : Cur w bk a len cap) :
    Calls Try.prog 19 #[.pointer (some ⟨bk, 0, none⟩), .int .i64 n] w fun e w' => ∃ b : Bool, e = .returned (.bool b) ∧ w.grownBy w' (some bk) ∧ Cur w' bk a len cap := by
  go_enter Try.func19, Try.ntmps19
  go_wp2_with fail
  refine (below_any n hr hW hbk hc).mono ?_
  rintro e w1 ⟨x, hx0, _, hx1, rfl, hg1, hc1⟩
  go_wp2
  go_ret
  exact ⟨_, rfl, hg1, hc1⟩

end Go.Proofs.Ytlfnjdgkpocanaa.draw
namespace Go.Proofs.Ytlfnjdgkpocanaa.draw
open Go.RowKit

theorem ofInt_yes (n : Int) (h1 : -100000 ≤ n) (h2 : n ≤ 100000) (w : World) :
    Calls Try.prog 37 #[.int .i64 n] w fun e w' => e = .returned (.int .i64 (4 * n + 1)) ∧ w' = w := by
  go_enter Try.func37, Try.ntmps37
  go_wp2
  go_ret
  exact ⟨rfl, rfl⟩
theorem ofAddr_yes (a : Int) (h1 : 0 ≤ a) (h2 : a ≤ 999) (w : World) :
    Calls Try.prog 38 #[.int .i64 a] w fun e w' => e = .returned (.int .i64 (4 * a + 4)) ∧ w' = w := by
  go_enter Try.func38, Try.ntmps38
  go_wp2
  go_ret
  exact ⟨rfl, rfl⟩

theorem one_any {W w : World} {bk : Nat} {a : Option Addr} {len cap : Nat} {zs : List Int} (hr : IsRow .u8 W a len cap zs) (hW : Below W.heap.size W w) (hbk : W.heap.size ≤ bk) (hc : Cur w bk a len cap) :
    Calls Try.prog 40 #[.pointer (some ⟨bk, 0, none⟩)] w fun e w' => ∃ x : Int, -9223372036854775808 ≤ x ∧ x ≤ 9223372036854775807 ∧ e = .returned (.int .i64 x) ∧ w.grownBy w' (some bk) ∧ Cur w' bk a len cap := by
  have step : ∀ {w' : World}, w.grownBy w' (some bk) → Below W.heap.size W w' := fun hg => hW.grown hg hW.size (fun k e => by cases e; exact hbk)
  go_enter Try.func40, Try.ntmps40
  go_wp2_with fail
  refine (below_any 5 hr hW hbk hc).mono ?_
  rintro e w1 ⟨x, hx0, _, hx1, rfl, hg1, hc1⟩
  have hx2 := hx1 (by decide)
  clear hx1
  obtain rfl | rfl | rfl | rfl | rfl : x = 0 ∨ x = 1 ∨ x = 2 ∨ x = 3 ∨ x = 4 := by omega
  all_goals clear hx0 hx2
  · go_wp2
    go_ret
    exact ⟨_, by decide, by decide, rfl, hg1, hc1⟩
  · go_wp2_with fail
    refine (below_any 100 hr (step hg1) hbk hc1).mono ?_
    rintro e w2 ⟨y, hy0, _, hy1, rfl, hg2, hc2⟩
    have hy2 := hy1 (by decide)
    clear hy1
    go_wp2_with fail
    refine (ofInt_yes _ (by omega) (by omega) _).mono ?_
    rintro e w3 ⟨rfl, rfl⟩
    go_wp2
    go_ret
    exact ⟨_, by omega, by omega, rfl, grownBy_trans hg1 hg2, hc2⟩
  · go_wp2_with fail
    refine (below_any 60 hr (step hg1) hbk hc1).mono ?_
    rintro e w2 ⟨y, hy0, _, hy1, rfl, hg2, hc2⟩
    have hy2 := hy1 (by decide)
    clear hy1
    go_wp2_with fail
    refine (ofAddr_yes _ (by omega) (by omega) _).mono ?_
    rintro e w3 ⟨rfl, rfl⟩
    go_wp2
    go_ret
    exact ⟨_, by omega, by omega, rfl, grownBy_trans hg1 hg2, hc2⟩
  · go_wp2_with fail
    refine (below_any 13 hr (step (grownBy_alloc hg1 _)) hbk (cur_alloc hc1 _)).mono ?_
    rintro e w2 ⟨y, hy0, _, hy1, rfl, hg2, hc2⟩
    have hy2 := hy1 (by decide)
    clear hy1
    obtain ⟨k, rfl⟩ := Int.eq_ofNat_of_zero_le hy0
    have hk : k < 13 := by omega
    have hcell : ∃ v : Int, -9223372036854775808 ≤ v ∧ v ≤ 9223372036854775807 ∧ w2.cell? ⟨w1.heap.size, k, none⟩ = some (.int .i64 v) := by
      have hlt := cur_lt hc1
      obtain rfl | rfl | rfl | rfl | rfl | rfl | rfl | rfl | rfl | rfl | rfl | rfl | rfl : k = 0 ∨ k = 1 ∨ k = 2 ∨ k = 3 ∨ k = 4 ∨ k = 5 ∨ k = 6 ∨ k = 7 ∨ k = 8 ∨ k = 9 ∨ k = 10 ∨ k = 11 ∨ k = 12 := by omega
      all_goals
        refine ⟨_, ?_, ?_, lit_cell hg2 hlt rfl⟩
        all_goals decide
    have hg3 := grownBy_trans (grownBy_alloc hg1 _) hg2
    obtain ⟨v, hv0, hv1, hv⟩ := hcell
    clear hg1 hg2 hc1 hy0
    go_wp2
    go_ret
    exact ⟨v, hv0, hv1, rfl, hg3, hc2⟩
  · go_wp2_with fail
    refine (below_any 500 hr (step hg1) hbk hc1).mono ?_
    rintro e w2 ⟨y, hy0, _, hy1, rfl, hg2, hc2⟩
    have hy2 := hy1 (by decide)
    clear hy1
    go_wp2
    go_ret
    exact ⟨_, by omega, by omega, rfl, grownBy_trans hg1 hg2, hc2⟩

end Go.Proofs.Ytlfnjdgkpocanaa.draw
namespace Go.Proofs.Ytlfnjdgkpocanaa.draw
open Go.RowKit rows

theorem grownBy_own {w w1 w2 : World} {bk : Nat} {v : Value} {hi : Nat} (h : w.grownBy w1 (some bk)) (hg : w1.grownBy w2 v.ownBlock) (hi' : ∀ k, v.ownBlock = some k → w.heap.size ≤ k ∧ k < hi) : w.grownBy w2 (some bk) :=
  ⟨hg.os.trans h.os, hg.tape.trans h.tape, hg.output.trans h.output, Nat.le_trans h.size hg.size, fun k hk hne => (hg.block k (Nat.lt_of_lt_of_le hk h.size) (fun e => by have := (hi' k e.symm).1; omega)).trans (h.block k hk hne)⟩
theorem cur_own {w1 w2 : World} {bk lo hi : Nat} {v : Value} {a : Option Addr} {len cap : Nat} (h : Cur w1 bk a len cap) (hg : w1.grownBy w2 v.ownBlock) (hi' : ∀ k, v.ownBlock = some k → lo ≤ k ∧ k < hi) (hb : bk < lo) : Cur w2 bk a len cap := by
  obtain ⟨i, g, hB, hl⟩ := h
  exact ⟨i, g, (hg.block bk (lt_of_block hB) (fun e => by have := (hi' bk e.symm).1; omega)).trans hB, hl⟩

theorem own_row3 {w : World} {base : Nat} {v : Value} {xs : List Int} {x : Int} (h : w.ownsRow base 2 1 v (xs.length + 1) (cellsOf xs ++ [.int .i64 x])) : rows.Own w base v (xs ++ [x]) := by
  unfold rows.Own
  simpa [cellsOf] using h
theorem own_row4 {w : World} {base n : Nat} {v : Value} (h : w.ownsRow base 2 1 v n (madeCells (Value.int .i64 0).cells (n * 1)).toList) : rows.Own w base v (List.replicate n 0) := by
  unfold rows.Own
  simpa [cellsOf, toList_madeCells_one, Value.cells] using h
theorem grownBy_none {w w' : World} {r : Option Nat} (h : w.grownBy w' none) : w.grownBy w' r := ⟨h.os, h.tape, h.output, h.size, fun k hk _ => h.block k hk (by simp)⟩
theorem cur_none {w w' : World} {bk : Nat} {a : Option Addr} {len cap : Nat} (h : Cur w bk a len cap) (hg : w.grownBy w' none) : Cur w' bk a len cap := by
  obtain ⟨i, g, hB, hl⟩ := h
  exact ⟨i, g, (hg.block bk (lt_of_block hB) (by simp)).trans hB, hl⟩

end Go.Proofs.Ytlfnjdgkpocanaa.draw
namespace Go.Proofs.Ytlfnjdgkpocanaa.draw
open Go.RowKit rows
set_option maxRecDepth 100000

theorem l3DrawAt_any {W w : World} {bk : Nat} {a : Option Addr} {len cap : Nat} {zs : List Int} (hr : IsRow .u8 W a len cap zs) (hW : Below W.heap.size W w) (hbk : W.heap.size ≤ bk) (hc : Cur w bk a len cap) :
    Calls Try.prog 20 #[.pointer (some ⟨bk, 0, none⟩)] w fun e w' => ∃ x : Int, -9223372036854775808 ≤ x ∧ x ≤ 9223372036854775807 ∧ e = .returned (.int .i64 x) ∧ w.grownBy w' (some bk) ∧ Cur w' bk a len cap := by
  have step : ∀ {w' : World}, w.grownBy w' (some bk) → Below W.heap.size W w' := fun hg => hW.grown hg hW.size (fun k e => by cases e; exact hbk)
  go_enter Try.func20, Try.ntmps20
  go_wp2_with fail
  refine (once_any 10 hr hW hbk hc).mono ?_
  rintro e w1 ⟨b, rfl, hg1, hc1⟩
  cases b
  · go_wp2_with fail
    refine (below_any 22 hr (step hg1) hbk hc1).mono ?_
    rintro e w2 ⟨y, hy0, _, hy1, rfl, hg2, hc2⟩
    have hy2 := hy1 (by decide)
    clear hy1
    go_wp2
    go_ret
    exact ⟨_, by omega, by omega, rfl, grownBy_trans hg1 hg2, hc2⟩
  · go_wp2_with fail
    refine (below_any 4 hr (step (grownBy_alloc hg1 _)) hbk (cur_alloc hc1 _)).mono ?_
    rintro e w2 ⟨y, hy0, _, hy1, rfl, hg2, hc2⟩
    have hy2 := hy1 (by decide)
    clear hy1
    obtain ⟨k, rfl⟩ := Int.eq_ofNat_of_zero_le hy0
    have hk : k < 4 := by omega
    have hcell : ∃ v : Int, -9223372036854775808 ≤ v ∧ v ≤ 9223372036854775807 ∧ w2.cell? ⟨w1.heap.size, k, none⟩ = some (.int .i64 v) := by
      have hlt := cur_lt hc1
      obtain rfl | rfl | rfl | rfl : k = 0 ∨ k = 1 ∨ k = 2 ∨ k = 3 := by omega
      all_goals
        refine ⟨_, ?_, ?_, lit_cell hg2 hlt rfl⟩
        all_goals decide
    have hg3 := grownBy_trans (grownBy_alloc hg1 _) hg2
    obtain ⟨v, hv0, hv1, hv⟩ := hcell
    clear hg1 hg2 hc1 hy0
    go_wp2
    go_ret
    exact ⟨v, hv0, hv1, rfl, hg3, hc2⟩

theorem own_cur {w w' : World} {base bk : Nat} {v : Value} {xs : List Int} (h : rows.Own w base v xs) (hb : bk < base) (hg : w.grownBy w' (some bk)) : rows.Own w' base v xs := by
  refine World.ownsRow.kept h hg ?_
  cases e : v.ownBlock with
  | none => exact .inl rfl
  | some k => have := World.ownsRow.lt h k e; exact .inr (fun e' => by injection e' with e'; omega)

end Go.Proofs.Ytlfnjdgkpocanaa.draw
