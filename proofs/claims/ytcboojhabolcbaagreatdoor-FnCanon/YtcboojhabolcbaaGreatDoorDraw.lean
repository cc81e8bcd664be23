/-
  The cursor over the bytes of a draw: what its functions return and what they write: the cursor's own block alone.
  Made from the template Draw.
-/
import Derived.Test.YtcboojhabolcbaaGreatDoorRows
import Derived.WalkKit
import Derived.WalkSpells
import Derived.WalkLawsBesides
import Derived.OpenShut
import Derived.Below
import Derived.Deep.QuietTactic
import Derived.BigQuiet
namespace Go.Proofs.YtcboojhabolcbaaGreatDoor.draw
open Go.RowKit

/-- A slice of numbers that came in: nil, or a row of cells. -/
def IsRow (k : IntKind) (w : World) (a : Option Addr) (len cap : Nat) (zs : List Int) : Prop :=
  (a = none ∧ len = 0 ∧ cap = 0 ∧ zs = []) ∨
  ∃ x, a = some x ∧ len ≤ cap ∧ cap ≤ maxLen ∧ zs.length = cap ∧ (∀ i, i < zs.length → w.cell? (x.add i) = some (.int k (zs.getD i 0))) ∧ ∀ n ∈ zs, (Lit.int k n).wf = true

theorem mask (n : Int) (i : Nat) (hi : i ≤ 62) (m : Int) (hm : m = 2 ^ i - 1) : bits .and .i64 n m = n % 2 ^ i := by
  subst hm
  have hp : 0 < 2 ^ i := Nat.two_pow_pos i
  have hc : ((2 : Int) ^ i - 1) = ((2 ^ i - 1 : Nat) : Int) := by
    rw [Int.natCast_sub hp]; simp
  have hle : 2 ^ i ≤ 2 ^ 62 := Nat.pow_le_pow_right (by decide) hi
  have h3 : (BitVec.ofInt 64 ((2 : Int) ^ i - 1)).toNat = 2 ^ i - 1 := by
    rw [hc, BitVec.ofInt_natCast, BitVec.toNat_ofNat, Nat.mod_eq_of_lt]
    have : (2 : Nat) ^ 62 < 2 ^ 64 := by decide
    omega
  have key : (BitVec.ofInt 64 n &&& BitVec.ofInt 64 ((2 : Int) ^ i - 1)).toNat = (n % ((2 ^ 64 : Nat) : Int)).toNat % 2 ^ i := by
    rw [BitVec.toNat_and, BitVec.toNat_ofInt, h3, Nat.and_two_pow_sub_one_eq_mod]
  show IntKind.i64.wrap ((BitVec.ofInt 64 n &&& BitVec.ofInt 64 ((2 : Int) ^ i - 1)).toNat : Nat) = n % 2 ^ i
  rw [key, IntKind.wrap_i64]
  have hd : ((2 ^ i : Nat) : Int) ∣ ((2 ^ 64 : Nat) : Int) := by
    exact_mod_cast Nat.pow_dvd_pow 2 (by omega : i ≤ 64)
  have e1 : (((n % ((2 ^ 64 : Nat) : Int)).toNat % 2 ^ i : Nat) : Int) = n % ((2 ^ i : Nat) : Int) := by
    rw [Int.natCast_emod, Int.toNat_of_nonneg (Int.emod_nonneg _ (by decide)), Int.emod_emod_of_dvd _ hd]
  rw [e1]
  have h0 : 0 ≤ n % ((2 ^ i : Nat) : Int) := Int.emod_nonneg _ (by omega)
  have h1 : n % ((2 ^ i : Nat) : Int) < ((2 ^ i : Nat) : Int) := Int.emod_lt_of_pos _ (by omega)
  have h2 : ((2 ^ i : Nat) : Int) ≤ 4611686018427387904 := by
    have : (2 : Nat) ^ 62 = 4611686018427387904 := by decide
    omega
  have e2 : ((2 ^ i : Nat) : Int) = 2 ^ i := by simp
  rw [← e2]
  omega

theorem and255 (n : Int) : bits .and .i64 n 255 = n % 256 := mask n 8 (by decide) 255 (by decide)
theorem and30 (n : Int) : bits .and .i64 n 1073741823 = n % 1073741824 := mask n 30 (by decide) 1073741823 (by decide)

/-- The cursor's block: the slice, how far it has come, the number that is mixed on. -/
def Cur (w : World) (bk : Nat) (a : Option Addr) (len cap : Nat) : Prop :=
  ∃ (i : Nat) (h : Int), w.heap[bk]? = some (.cells #[.slice a len cap, .int .i64 (i : Int), .int .i64 h] 99 (0, 0)) ∧ i ≤ len

theorem three_setCell {w : World} {b : Nat} {c : Array Value} {t : TypeId} (h : w.heap[b]? = some (.cells c t (0, 0))) (k : Nat) (u : Value) :
    (w.setCell ⟨b, k, none⟩ u).heap[b]? = some (.cells (c.setIfInBounds k u) t (0, 0)) := by
  have hlt := lt_of_block h
  have h' : w.heap[b] = .cells c t (0, 0) := by simpa [Array.getElem?_eq_getElem hlt] using h
  show (w.heap.modify b _)[b]? = _
  rw [Array.getElem?_eq_getElem (by simpa using hlt), Array.getElem_modify_self, h']
  rfl

theorem grownBy_refl (w : World) (r : Option Nat) : w.grownBy w r := ⟨rfl, rfl, rfl, Nat.le_refl _, fun _ _ _ => rfl⟩
theorem grownBy_drewN {w w' : World} {r : Option Nat} (h : w.grownBy w' r) (n : Nat) : w.grownBy (w'.drewN n) r := ⟨h.os, h.tape, h.output, h.size, h.block⟩
theorem grownBy_drew {w w' : World} {r : Option Nat} (h : w.grownBy w' r) : w.grownBy w'.drew r := ⟨h.os, h.tape, h.output, h.size, h.block⟩
theorem grownBy_setCell {w w' : World} {b : Nat} (h : w.grownBy w' (some b)) (k : Nat) (u : Value) : w.grownBy (w'.setCell ⟨b, k, none⟩ u) (some b) :=
  ⟨h.os, h.tape, h.output, by simpa using h.size, fun k' hk hne => (Below.heap_setCell w' _ u k' (fun e => hne (by simp [e]))).trans (h.block k' hk hne)⟩
theorem grownBy_trans {a b c : World} {r : Option Nat} (h : a.grownBy b r) (k : b.grownBy c r) : a.grownBy c r :=
  ⟨k.os.trans h.os, k.tape.trans h.tape, k.output.trans h.output, Nat.le_trans h.size k.size, fun i hi hne => (k.block i (Nat.lt_of_lt_of_le hi h.size) hne).trans (h.block i hi hne)⟩

theorem cur_drewN {w : World} {bk : Nat} {a : Option Addr} {len cap n : Nat} (h : Cur w bk a len cap) : Cur (w.drewN n) bk a len cap := h
theorem cur_drew {w : World} {bk : Nat} {a : Option Addr} {len cap : Nat} (h : Cur w bk a len cap) : Cur w.drew bk a len cap := h
theorem cur_one {w : World} {bk : Nat} {a : Option Addr} {len cap i : Nat} {h : Int} (hb : w.heap[bk]? = some (.cells #[.slice a len cap, .int .i64 (i : Int), .int .i64 h] 99 (0, 0))) (h' : Int) (hi : i ≤ len) :
    Cur (w.setCell ⟨bk, 2, none⟩ (.int .i64 h')) bk a len cap := ⟨i, h', (three_setCell hb 2 _).trans rfl, hi⟩
theorem cur_two {w : World} {bk : Nat} {a : Option Addr} {len cap i : Nat} {h : Int} (hb : w.heap[bk]? = some (.cells #[.slice a len cap, .int .i64 (i : Int), .int .i64 h] 99 (0, 0))) (h' : Int) (hi : i + 1 ≤ len) :
    Cur ((w.setCell ⟨bk, 2, none⟩ (.int .i64 h')).setCell ⟨bk, 1, none⟩ (.int .i64 ((i : Int) + 1))) bk a len cap :=
  ⟨i + 1, h', (three_setCell (three_setCell hb 2 _) 1 _).trans rfl, hi⟩
theorem rem_le (x n : Int) (h0 : 0 ≤ x) (h1 : x ≤ 4294967295) (hn : 0 < n) : x % n ≤ 4294967295 := by
  by_cases h : n ≤ x
  · have := Int.emod_lt_of_pos x hn
    omega
  · rw [Int.emod_eq_of_lt h0 (by omega)]
    exact h1

theorem byte_any {W w : World} {bk : Nat} {a : Option Addr} {len cap : Nat} {zs : List Int} (hr : IsRow .u8 W a len cap zs) (hW : Below W.heap.size W w) (hbk : W.heap.size ≤ bk) (hc : Cur w bk a len cap) :
    Calls Tryz.prog 61 #[.pointer (some ⟨bk, 0, none⟩)] w fun e w' => ∃ x : Int, 0 ≤ x ∧ x ≤ 255 ∧ e = .returned (.int .i64 x) ∧ w.grownBy w' (some bk) ∧ Cur w' bk a len cap := by
  obtain ⟨i, h, hb, hi⟩ := hc
  have hm := and255
  have c0 : w.cell? ⟨bk, 0, none⟩ = some (.slice a len cap) := by simp [World.cell?, hb]
  have c1 : w.cell? ⟨bk, 1, none⟩ = some (.int .i64 (i : Int)) := by simp [World.cell?, hb]
  have c2 : w.cell? ⟨bk, 2, none⟩ = some (.int .i64 h) := by simp [World.cell?, hb]
  have f1 : w.frozen? ⟨bk, 1, none⟩ = false := by simp [World.frozen?, hb]
  have f2 : w.frozen? ⟨bk, 2, none⟩ = false := by simp [World.frozen?, hb]
  have HB : Hid (w.heap[bk]? = some (.cells #[.slice a len cap, .int .i64 (i : Int), .int .i64 h] 99 (0, 0))) := hb
  clear hb
  by_cases hlt : i < len
  · rcases hr with ⟨_, h0, _⟩ | ⟨x, rfl, hl, hml, hzl, hcell, hwf⟩
    · omega
    · obtain ⟨b, off, rfl, hcell'⟩ := ints_at hcell (by omega)
      have hlt' : b < W.heap.size := World.block_lt_of_cell? W _ (hcell' i (by omega))
      have hne : ¬ b = bk := by omega
      have hne' : ¬ bk = b := by omega
      have hzb : 0 ≤ zs.getD i 0 ∧ zs.getD i 0 ≤ 255 := by
        have := hwf (zs.getD i 0) (by simp [List.getD_eq_getElem?_getD, List.getElem?_eq_getElem (show i < zs.length by omega)])
        simpa [Lit.wf, IntKind.min, IntKind.max, IntKind.signed, IntKind.bits] using this
      have cz : w.cell? ⟨b, off + i, none⟩ = some (.int .u8 (zs.getD i 0)) := (hW.cell (p := ⟨b, off + i, none⟩) hlt').trans (hcell' i (by omega))
      generalize zs.getD i 0 = z at hzb cz
      obtain ⟨hz0, hz1⟩ := hzb
      unfold maxLen at hml
      clear hcell hcell' hwf hzl hW hbk hlt'
      go_enter Tryz.func61, Tryz.ntmps61
      go_wp2
      go_quiet (fail)
      go_wp2
      go_quiet (fail)
      go_wp2
      go_quiet (fail)
      go_wp2
      go_ret
      refine ⟨_, ?_, ?_, rfl, ?_, ?_⟩
      · omega
      · omega
      · repeat (first | exact grownBy_refl _ _ | refine grownBy_drewN ?_ _ | refine grownBy_drew ?_ | refine grownBy_setCell ?_ _ _)
      · repeat (first | exact cur_two HB.out _ (by omega) | refine cur_drewN ?_ | refine cur_drew ?_)
  · clear hW hbk hr
    go_enter Tryz.func61, Tryz.ntmps61
    go_wp2
    go_quiet (fail)
    go_wp2
    go_quiet (fail)
    go_wp2
    go_ret
    refine ⟨_, ?_, ?_, rfl, ?_, ?_⟩
    · omega
    · omega
    · repeat (first | exact grownBy_refl _ _ | refine grownBy_drewN ?_ _ | refine grownBy_drew ?_ | refine grownBy_setCell ?_ _ _)
    · repeat (first | exact cur_one HB.out _ hi | refine cur_drewN ?_ | refine cur_drew ?_)

theorem below_any {W w : World} {bk : Nat} {a : Option Addr} {len cap : Nat} {zs : List Int} (n : Int) (hr : IsRow .u8 W a len cap zs) (hW : Below W.heap.size W w) (hbk : W.heap.size ≤ bk) (hc : Cur w bk a len cap) :
    Calls Tryz.prog 34 #[.pointer (some ⟨bk, 0, none⟩), .int .i64 n] w fun e w' => ∃ x : Int, 0 ≤ x ∧ x ≤ 4294967295 ∧ (0 < n → x < n) ∧ e = .returned (.int .i64 x) ∧ w.grownBy w' (some bk) ∧ Cur w' bk a len cap := by
  have step : ∀ {w' : World}, w.grownBy w' (some bk) → Below W.heap.size W w' := fun hg => hW.grown hg hW.size (fun k e => by cases e; exact hbk)
  by_cases h1 : n ≤ 0
  · go_enter Tryz.func34, Tryz.ntmps34
    go_wp2
    go_ret
    exact ⟨0, by omega, by omega, by omega, rfl, grownBy_refl _ _, hc⟩
  · by_cases h2 : n ≤ 256
    · go_enter Tryz.func34, Tryz.ntmps34
      go_wp2_with fail
      refine (byte_any hr hW hbk hc).mono ?_
      rintro e w1 ⟨x, hx0, hx1, rfl, hg, hc1⟩
      have hn : ¬ n = 0 := by omega
      go_wp2
      go_ret
      refine ⟨_, ?_, ?_, ?_, rfl, hg, hc1⟩
      · exact Int.emod_nonneg _ hn
      · exact rem_le _ _ (by omega) (by omega) (by omega)
      · intro h
        exact Int.emod_lt_of_pos x h
    · go_enter Tryz.func34, Tryz.ntmps34
      go_wp2_with fail
      refine (byte_any hr hW hbk hc).mono ?_
      rintro e w1 ⟨x1, hx1, hy1, rfl, hg1, hc1⟩
      go_wp2_with fail
      refine (byte_any hr (step hg1) hbk hc1).mono ?_
      rintro e w2 ⟨x2, hx2, hy2, rfl, hg2, hc2⟩
      have hg2 := grownBy_trans hg1 hg2
      go_wp2_with fail
      refine (byte_any hr (step hg2) hbk hc2).mono ?_
      rintro e w3 ⟨x3, hx3, hy3, rfl, hg3, hc3⟩
      have hg3 := grownBy_trans hg2 hg3
      go_wp2_with fail
      refine (byte_any hr (step hg3) hbk hc3).mono ?_
      rintro e w4 ⟨x4, hx4, hy4, rfl, hg4, hc4⟩
      have hg4 := grownBy_trans hg3 hg4
      have hn : ¬ n = 0 := by omega
      go_wp2
      go_ret
      refine ⟨_, ?_, ?_, ?_, rfl, hg4, hc4⟩
      · exact Int.emod_nonneg _ hn
      · exact rem_le _ _ (by omega) (by omega) (by omega)
      · intro h
        exact Int.emod_lt_of_pos _ h
end Go.Proofs.YtcboojhabolcbaaGreatDoor.draw
