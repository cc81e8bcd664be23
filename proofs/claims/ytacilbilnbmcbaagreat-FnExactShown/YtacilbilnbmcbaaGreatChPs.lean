/-
  What a call may change, by a predicate of the blocks.
  Made from the template ChPs.
-/
import Derived.Test.YtacilbilnbmcbaaGreatM5
namespace Go.Proofs.YtacilbilnbmcbaaGreat.hp
open Go.RowKit rows heads words walks
set_option maxRecDepth 100000
set_option linter.unusedVariables false

/-- Nothing but these blocks has changed. -/
structure ChP (S : Nat → Prop) (w w' : World) : Prop where
  os : w'.os = w.os
  tape : w'.tape = w.tape
  output : w'.output = w.output
  size : w.heap.size ≤ w'.heap.size
  block : ∀ k, k < w.heap.size → ¬ S k → w'.heap[k]? = w.heap[k]?
theorem ChP.refl (S : Nat → Prop) (w : World) : ChP S w w := ⟨rfl, rfl, rfl, Nat.le_refl _, fun _ _ _ => rfl⟩
theorem ChP.trans {S S' : Nat → Prop} {a b c : World} (h : ChP S a b) (k : ChP S' b c) (hs : ∀ j, S' j → S j ∨ a.heap.size ≤ j) : ChP S a c :=
  ⟨k.os.trans h.os, k.tape.trans h.tape, k.output.trans h.output, Nat.le_trans h.size k.size, fun i hi hn => (k.block i (Nat.lt_of_lt_of_le hi h.size) (fun e => (hs i e).elim hn (fun e => by omega))).trans (h.block i hi hn)⟩
theorem chP_below {S : Nat → Prop} {a b : World} (h : Below a.heap.size a b) : ChP S a b := ⟨h.os, h.tape, h.output, h.size, fun k hk _ => h.block k hk⟩
theorem chP_ch {S : Nat → Prop} {T : List Nat} {a b : World} (h : Ch T a b) (hs : ∀ k ∈ T, S k) : ChP S a b := ⟨h.os, h.tape, h.output, h.size, fun k hk hn => h.block k hk (fun e => hn (hs k e))⟩
theorem below_chP {S : Nat → Prop} {B : Nat} {a b : World} (h : ChP S a b) (hb : B ≤ a.heap.size) (hs : ∀ k, S k → B ≤ k) : Below B a b := ⟨h.os, h.tape, h.output, h.size, fun k hk => h.block k (by omega) (fun e => by have := hs k e; omega)⟩
theorem own_chP {S : Nat → Prop} {w w' : World} {base : Nat} {v : Value} {xs : List Int} (h : rows.Own w base v xs) (hc : ChP S w w') (hd : ∀ k ∈ blk v, ¬ S k) : rows.Own w' base v xs := by
  obtain ⟨h0, ⟨h1, h2⟩ | ⟨g, cap, cur, h1, hg, hh, hr⟩⟩ := h
  · exact ⟨h0, .inl ⟨h1, h2⟩⟩
  · subst h1
    exact ⟨h0, .inr ⟨g, cap, cur, rfl, hg, (hc.block g (lt_of_block hh) (hd g (by simp [blk, Value.ownBlock]))).trans hh, hr⟩⟩
end Go.Proofs.YtacilbilnbmcbaaGreat.hp
