/-
  Plain facts on the low two bits of a 64-bit number: a mask by 3 is the rest by 4; 4n with bit 1 laid in is 4n + 1; with 0 laid in, itself. Lists of 64-bit numbers in memory: what may be read of one (IntsAt); a row of the call's own (Own). Chapter 3 as the specification has it: is it a row? Chapter 3 as the specification has it: ReadAt. 'append([]int64{}, row...)': a copy of a row, nil or not, as a law for the walk. Chapter 3 as the specification has it: Filled.
-/
import Derived.Laws.BitsLemmas
import Derived.Laws.BitsAllLaws
import Derived.Test.YtmmlghdffglocaaGreatRows
import Derived.WalkKit
import Derived.WalkSpells
import Derived.WalkLawsBesides
import Derived.OpenShut
import Derived.Below
import Derived.LoopTactic
import Derived.LoopN
import Derived.Deep.QuietTactic
import Derived.BigQuiet
import Derived.Laws.AppendOwnNone
namespace Go.Proofs.YtmmlghdffglocaaGreat
theorem and3 (n : Int) : bits .and .i64 n 3 = n % 4 := by
  have h3 : (BitVec.ofInt 64 3).toNat = 2 ^ 2 - 1 := by decide
  have key : (BitVec.ofInt 64 n &&& BitVec.ofInt 64 3).toNat = (n % ((2 ^ 64 : Nat) : Int)).toNat % 2 ^ 2 := by
    rw [BitVec.toNat_and, BitVec.toNat_ofInt, h3, Nat.and_two_pow_sub_one_eq_mod]
  show IntKind.i64.wrap ((BitVec.ofInt 64 n &&& BitVec.ofInt 64 3).toNat : Nat) = n % 4
  rw [key, IntKind.wrap_i64]
  omega

theorem or1 (n x : Int) (e : x = n * 4) (h0 : -1000000 ≤ n) (h1 : n ≤ 1000000) : bits .or .i64 x 1 = n * 4 + 1 := by
  subst e
  have h3 : (BitVec.ofInt 64 1).toNat = 1 := by decide
  have hj : (((n * 4) % ((2 ^ 64 : Nat) : Int)).toNat ||| 1) = ((n * 4) % ((2 ^ 64 : Nat) : Int)).toNat + 1 := nat_join 2 _ 1 (by omega) (by decide)
  have key : (BitVec.ofInt 64 (n * 4) ||| BitVec.ofInt 64 1).toNat = ((n * 4) % ((2 ^ 64 : Nat) : Int)).toNat + 1 := by
    rw [BitVec.toNat_or, BitVec.toNat_ofInt, h3, hj]
  show IntKind.i64.wrap ((BitVec.ofInt 64 (n * 4) ||| BitVec.ofInt 64 1).toNat : Nat) = n * 4 + 1
  rw [key, IntKind.wrap_i64]
  omega

theorem or0 (x : Int) (h0 : -1000000 ≤ x) (h1 : x ≤ 1000000) : bits .or .i64 x 0 = x := by
  have h3 : (BitVec.ofInt 64 0).toNat = 0 := by decide
  have key : (BitVec.ofInt 64 x ||| BitVec.ofInt 64 0).toNat = (x % ((2 ^ 64 : Nat) : Int)).toNat := by
    rw [BitVec.toNat_or, BitVec.toNat_ofInt, h3, Nat.or_zero]
  show IntKind.i64.wrap ((BitVec.ofInt 64 x ||| BitVec.ofInt 64 0).toNat : Nat) = x
  rw [key, IntKind.wrap_i64]
  omega
theorem tdiv4 (n : Int) (h : n % 4 = 1) : (n - 1).tdiv 4 = n / 4 := by
  rw [Int.tdiv_eq_ediv_of_dvd (by omega)]
  omega
end Go.Proofs.YtmmlghdffglocaaGreat
namespace Go.Proofs.YtmmlghdffglocaaGreat.rows
open Go.RowKit

/-- A number that an int64 holds. -/
def I64 (i : Int) : Prop := -9223372036854775808 ≤ i ∧ i ≤ 9223372036854775807
theorem i64_of_wf {i : Int} (h : (Lit.int .i64 i).wf = true) : I64 i := by
  simpa [I64, Lit.wf, IntKind.min, IntKind.max, IntKind.signed, IntKind.bits] using h

/-- The numbers as cells. -/
abbrev cellsOf (xs : List Int) : List Value := xs.map (Value.int .i64)

/-- The value v is a slice whose numbers are xs. -/
def IntsAt (w : World) (v : Value) (xs : List Int) : Prop :=
  ∃ a cap, v = .slice a xs.length cap ∧ xs.length ≤ cap ∧ cap ≤ maxLen ∧ (a = none → cap = 0) ∧
    (0 < xs.length → ∃ b off, a = some ⟨b, off, none⟩ ∧ b < w.heap.size ∧ ∀ i, i < xs.length → w.cell? ⟨b, off + i, none⟩ = some (.int .i64 (xs.getD i 0)))

theorem intsAt_below {w w' : World} {v : Value} {xs : List Int} (h : IntsAt w v xs) (hb : Below w.heap.size w w') : IntsAt w' v xs := by
  obtain ⟨a, cap, rfl, h1, h2, h4, h3⟩ := h
  refine ⟨a, cap, rfl, h1, h2, h4, fun hp => ?_⟩
  obtain ⟨b, off, rfl, hlt, hc⟩ := h3 hp
  exact ⟨b, off, rfl, Nat.lt_of_lt_of_le hlt hb.size, fun i hi => (hb.cell (p := ⟨b, off + i, none⟩) hlt).trans (hc i hi)⟩

/-- A row that lies at the head of a block of its own. -/
def Own (w : World) (base : Nat) (v : Value) (xs : List Int) : Prop := w.ownsRow base 2 1 v xs.length (cellsOf xs)

theorem own_ints {w : World} {base : Nat} {v : Value} {xs : List Int} (h : Own w base v xs) : IntsAt w v xs := by
  have h' := h
  obtain ⟨_, ⟨rfl, hn⟩ | ⟨g, cap, cur, rfl, hg, hh, hle, hm, hs, ht⟩⟩ := h
  · have : xs = [] := by simpa using hn
    subst this
    exact ⟨none, 0, rfl, by simp, by decide, fun _ => rfl, fun hp => absurd hp (by simp)⟩
  · refine ⟨_, cap, rfl, hle, hm, fun h => (by cases h), fun hp => ⟨g, 0, rfl, lt_of_block hh, fun i hi => ?_⟩⟩
    have := World.ownsRow.cellAt h' i (by omega)
    rw [Nat.zero_add, this]
    simp [List.getD_eq_getElem?_getD, List.getElem?_eq_getElem hi]

theorem own_base {w : World} {base base' : Nat} {v : Value} {xs : List Int} (h : Own w base v xs) (hb : base' ≤ base) : Own w base' v xs := by
  obtain ⟨h0, ⟨h1, h2⟩ | ⟨g, cap, cur, h1, hg, hh, hle, hm, hs, ht⟩⟩ := h
  · exact ⟨h0, .inl ⟨h1, h2⟩⟩
  · exact ⟨h0, .inr ⟨g, cap, cur, h1, Nat.le_trans hb hg, hh, hle, hm, hs, ht⟩⟩

/-- What is owned stays where only what lies below or other rows are as they were. -/
theorem own_below {w w' : World} {base : Nat} {v : Value} {xs : List Int} (h : Own w base v xs) (hb : Below w.heap.size w w') : Own w' base v xs := by
  obtain ⟨h0, ⟨h1, h2⟩ | ⟨g, cap, cur, h1, hg, hh, hle, hm, hs, ht⟩⟩ := h
  · exact ⟨h0, .inl ⟨h1, h2⟩⟩
  · exact ⟨h0, .inr ⟨g, cap, cur, h1, hg, (hb.block g (lt_of_block hh)).trans hh, hle, hm, hs, ht⟩⟩

/-- One block that holds just these numbers. -/
def Full (w : World) (b : Nat) (xs : List Int) : Prop := w.heap[b]? = some (.cells (cellsOf xs).toArray 2 (0, 0))

theorem full_own {w : World} {b base : Nat} {xs : List Int} (h : Full w b xs) (hb : base ≤ b) (hm : xs.length ≤ maxLen) : Own w base (.slice (some ⟨b, 0, none⟩) xs.length xs.length) xs :=
  ⟨by simp, .inr ⟨b, xs.length, _, rfl, hb, h, Nat.le_refl _, hm, by simp, List.take_of_length_le (by simp)⟩⟩

theorem own_full {w : World} {base g n : Nat} {cs : List Value} {xs : List Int} (h : w.ownsRow base 2 1 (.slice (some ⟨g, 0, none⟩) n n) n cs) (hcs : cs = cellsOf xs) : Full w g xs := by
  subst hcs
  obtain ⟨_, ⟨h1, _⟩ | ⟨g', cap, cur, h1, hg, hh, hle, hm, hs, ht⟩⟩ := h
  · cases h1
  · injection h1 with e1 e2 e3
    injection e1 with e1
    injection e1 with e1
    subst e1 e3
    unfold Full
    rw [hh]
    rw [List.take_of_length_le (by simpa using Nat.le_of_eq hs)] at ht
    rw [← ht]

theorem full_cell {w : World} {b : Nat} {xs : List Int} (h : Full w b xs) {i : Nat} (hi : i < xs.length) : w.cell? ⟨b, i, none⟩ = some (.int .i64 (xs.getD i 0)) := by
  unfold Full at h
  simp [World.cell?, h, List.getD_eq_getElem?_getD, List.getElem?_eq_getElem hi]
theorem full_frozen {w : World} {b : Nat} {xs : List Int} (h : Full w b xs) (i : Nat) : w.frozen? ⟨b, i, none⟩ = false := by
  unfold Full at h
  simp [World.frozen?, h]
theorem block_setCell {w : World} {b : Nat} {c : Array Value} {t : TypeId} (h : w.heap[b]? = some (.cells c t (0, 0))) (k : Nat) (u : Value) :
    (w.setCell ⟨b, k, none⟩ u).heap[b]? = some (.cells (c.setIfInBounds k u) t (0, 0)) := by
  have hlt := lt_of_block h
  have h' : w.heap[b] = .cells c t (0, 0) := by simpa [Array.getElem?_eq_getElem hlt] using h
  show (w.heap.modify b _)[b]? = _
  rw [Array.getElem?_eq_getElem (by simpa using hlt), Array.getElem_modify_self, h']
  rfl
theorem full_set {w : World} {b : Nat} {xs : List Int} (h : Full w b xs) (i : Nat) (x : Int) : Full (w.setCell ⟨b, i, none⟩ (.int .i64 x)) b (xs.set i x) := by
  unfold Full
  rw [block_setCell h i]
  simp [cellsOf, List.map_set]

theorem info : (Tryz.prog.info? 2).map (fun i => (i.zero, i.size, i.bytes)) = some (some (.int .i64 0), 1, 8) := by kernel_rfl

theorem take_succ_eq {xs ys : List Int} {k : Nat} (h : xs.take k = ys.take k) (hx : k < xs.length) (hy : k < ys.length) (e : xs.getD k 0 = ys.getD k 0) : xs.take (k + 1) = ys.take (k + 1) := by
  rw [List.take_succ_eq_append_getElem hx, List.take_succ_eq_append_getElem hy, h]
  simp [List.getD_eq_getElem?_getD, List.getElem?_eq_getElem hx, List.getElem?_eq_getElem hy] at e
  rw [e]

/-- What an append reads of a list. -/
theorem ints_news {w : World} {ad : Addr} {n cap : Nat} {xs : List Int} (h : IntsAt w (.slice (some ad) n cap) xs) : ∀ j u, (cellsOf xs)[j]? = some u → w.cell? (ad.add j) = some u := by
  obtain ⟨a, cap', e, h1, h2, h4, h3⟩ := h
  intro j u hj
  have hlt : j < xs.length := by
    have := List.getElem?_eq_some_iff.1 hj
    simpa using this.1
  obtain ⟨b, off, rfl, _, hc⟩ := h3 (by omega)
  injection e with e1 e2 e3
  injection e1 with e1
  subst e1
  have := hc j hlt
  simp [List.getD_eq_getElem?_getD, List.getElem?_eq_getElem hlt] at this
  simp [cellsOf, List.getElem?_eq_getElem hlt] at hj
  rw [← hj]
  by_cases h0 : j = 0
  · subst h0; simpa [Addr.add] using this
  · simpa [Addr.add, h0] using this

end Go.Proofs.YtmmlghdffglocaaGreat.rows
namespace Go.Proofs.YtmmlghdffglocaaGreat.rows
open Go.RowKit

/-- Is it a row? -/
def rowOk (xs : List Int) : Bool := decide (xs.length ≤ 1000)
theorem rowOk_true {xs : List Int} (h : rowOk xs = true) : xs.length ≤ 1000 := by simpa [rowOk] using h
theorem rowOk_false {xs : List Int} (h : rowOk xs = false) : 1000 < xs.length := by simpa [rowOk] using h

end Go.Proofs.YtmmlghdffglocaaGreat.rows
namespace Go.Proofs.YtmmlghdffglocaaGreat.rows
open Go.RowKit

/-- Is there such a place? -/
def atOk (xs : List Int) (i : Int) : Bool := decide (0 ≤ i ∧ i < xs.length)
theorem atOk_true {xs : List Int} {i : Int} (h : atOk xs i = true) : 0 ≤ i ∧ i < xs.length := by simpa [atOk] using h

def okAt (xs : List Int) (i : Int) : Bool := rowOk xs && atOk xs i
def readAt (xs : List Int) (i : Int) : Int := if okAt xs i = true then xs.getD i.toNat 0 else 0
def writeAt (xs : List Int) (i x : Int) : List Int := if okAt xs i = true then xs.set i.toNat x else if rowOk xs = true then xs else []

end Go.Proofs.YtmmlghdffglocaaGreat.rows
namespace Go.Proofs.YtmmlghdffglocaaGreat.rows
open Go.RowKit

/-- Behind 'append([]int64{}, row...)': a row of the call's own. -/
theorem copied_own {w w1 : World} {v' : Value} {xs : List Int} (hown : w1.ownsRow w.heap.size 2 1 v' (0 + xs.length) ([] ++ cellsOf xs)) (hgrow : (w.alloc (.cells #[] 2)).grownBy w1 (some w.heap.size))
    (hnn : v' = .slice none 0 0 ↔ Value.slice (some ⟨w.heap.size, 0, none⟩) 0 0 = .slice none 0 0 ∧ xs.length = 0) :
    ∃ g cap, v' = .slice (some ⟨g, 0, none⟩) xs.length cap ∧ w.heap.size ≤ g ∧ w1.ownsRow w.heap.size 2 1 (.slice (some ⟨g, 0, none⟩) xs.length cap) xs.length (cellsOf xs) ∧ Below w.heap.size w w1 := by
  rw [Nat.zero_add, List.nil_append] at hown
  have h' := hown
  obtain ⟨_, ⟨rfl, _⟩ | ⟨g, cap, cur, rfl, hg, _⟩⟩ := hown
  · exact absurd (hnn.1 rfl).1 (by simp)
  · exact ⟨g, cap, rfl, hg, h', ((Below.refl _ _).alloc (Nat.le_refl _) _).grown hgrow (by simp) (fun k e => by cases e; exact Nat.le_refl _)⟩

theorem own_row {w : World} {base n : Nat} {v : Value} {xs : List Int} (h : w.ownsRow base 2 1 v n (cellsOf xs)) (hn : xs.length = n) : Own w base v xs := by
  subst hn; exact h

/-- One law for every list: the operation reads an empty slice just made (the last block) and the list. -/
theorem wpList_copied {w : World} {ops : Array Oper} {rest : List Oper} {o : Oper} {act : Act} {Q : Exit → Act → World → Prop} {a : Option Addr} {cap : Nat} {xs : List Int}
    (h : IntsAt w (.slice a xs.length cap) xs) (hl : xs.length ≤ 1048576) (hgd : o.guard = none) (s x : Operand) (ho : o.op = .call { callee := .builtin .append, args := #[s, x], argTypes := #[22, 22] })
    (hs : act.eval s = .slice (some ⟨w.heap.size, 0, none⟩) 0 0) (hx : act.eval x = .slice a xs.length cap)
    (hK : ∀ g cap' w1, w.heap.size ≤ g → w1.ownsRow w.heap.size 2 1 (.slice (some ⟨g, 0, none⟩) xs.length cap') xs.length (cellsOf xs) → Below w.heap.size w w1 → wpList Tryz.prog ops Q rest (act.put o.dst (.slice (some ⟨g, 0, none⟩) xs.length cap')) w1) :
    wpList Tryz.prog ops Q (o :: rest) act (w.alloc (.cells #[] 2)) := by
  obtain ⟨i0, hi, hz0, hz1, hz2⟩ := info_parts info
  have OWN : (w.alloc (.cells #[] 2)).ownsRow w.heap.size 2 1 (.slice (some ⟨w.heap.size, 0, none⟩) 0 0) 0 [] := ⟨rfl, .inr ⟨w.heap.size, 0, #[], rfl, Nat.le_refl _, heap_alloc_new w _, Nat.le_refl _, by decide, rfl, rfl⟩⟩
  have h' := h
  obtain ⟨a', cap', e, hlc, hcm, hnil, _⟩ := h
  injection e with e1 e2 e3
  subst e1 e3
  cases a with
  | none =>
    have hcap := hnil rfl
    have e : xs = [] := List.eq_nil_of_length_eq_zero (by omega)
    subst e hcap
    refine wpList_append_own_none hgd s x 22 ho _ 2 i0 1 Tryz.underlying22 hi _ 0 [] hs OWN hx ?_
    exact hK _ _ _ (Nat.le_refl _) OWN ((Below.refl _ _).alloc (Nat.le_refl _) _)
  | some ad =>
    refine wpList_append_own _ hgd s x 22 ho _ 2 i0 (.int .i64 0) 1 8 Tryz.underlying22 hi hz0 hz1 hz2 rfl (by decide) _ 0 [] hs OWN ad xs.length cap (cellsOf xs) hx (by simp) (ints_news (intsAt_below h' ((Below.refl _ _).alloc (Nat.le_refl _) _))) (ints_oneCell _ _) (by unfold maxLen; omega) (by omega) (by simp) ?_
    intro v' w1 hown hgrow hnn
    obtain ⟨g, cap', rfl, hg, hO, hB⟩ := copied_own hown hgrow hnn
    exact hK g cap' w1 hg hO hB
end Go.Proofs.YtmmlghdffglocaaGreat.rows
namespace Go.Proofs.YtmmlghdffglocaaGreat.rows
open Go.RowKit

/-- The k numbers from f on are x. -/
def fill (xs : List Int) (f k : Nat) (x : Int) : List Int := xs.take f ++ List.replicate k x ++ xs.drop (f + k)
theorem fill_zero (xs : List Int) (f : Nat) (x : Int) : fill xs f 0 x = xs := by simp [fill]
theorem fill_length {xs : List Int} {f k : Nat} {x : Int} (h : f + k ≤ xs.length) : (fill xs f k x).length = xs.length := by simp [fill]; omega
theorem fill_set {xs : List Int} {f k : Nat} {x : Int} (h : f + k < xs.length) : (fill xs f k x).set (f + k) x = fill xs f (k + 1) x := by
  apply List.ext_getElem?
  intro i
  simp only [fill, List.getElem?_set, List.getElem?_append, List.length_take, List.getElem?_take, List.getElem?_replicate, List.length_append, List.length_replicate, List.getElem?_drop, List.length_drop]
  grind

def fillOk (xs : List Int) (f t : Int) : Bool := rowOk xs && decide (0 ≤ f ∧ f ≤ t ∧ t ≤ xs.length)
def filled (xs : List Int) (f t x : Int) : List Int := if fillOk xs f t = true then fill xs f.toNat (t - f).toNat x else if rowOk xs = true then xs else []

end Go.Proofs.YtmmlghdffglocaaGreat.rows
