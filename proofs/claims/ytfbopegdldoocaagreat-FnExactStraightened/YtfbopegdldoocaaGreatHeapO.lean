/-
  Heaps of a call's own, and what may change beside them.
  Made from the template HeapO.
-/
import Derived.Test.YtfbopegdldoocaaGreatHeapM
import Derived.Test.YtfbopegdldoocaaGreatIntsX
namespace Go.Proofs.YtfbopegdldoocaaGreat.hp
open Go.RowKit rows heads words walks
set_option maxRecDepth 100000

/-- The block of a row. -/
def blk (v : Value) : List Nat := v.ownBlock.toList
/-- Nothing but the blocks S has changed of what there was. -/
structure Ch (S : List Nat) (w w' : World) : Prop where
  os : w'.os = w.os
  tape : w'.tape = w.tape
  output : w'.output = w.output
  size : w.heap.size ≤ w'.heap.size
  block : ∀ k, k < w.heap.size → k ∉ S → w'.heap[k]? = w.heap[k]?
theorem Ch.refl (S : List Nat) (w : World) : Ch S w w := ⟨rfl, rfl, rfl, Nat.le_refl _, fun _ _ _ => rfl⟩
theorem Ch.trans {S : List Nat} {a b c : World} (h : Ch S a b) (k : Ch S b c) : Ch S a c :=
  ⟨k.os.trans h.os, k.tape.trans h.tape, k.output.trans h.output, Nat.le_trans h.size k.size, fun i hi hn => (k.block i (Nat.lt_of_lt_of_le hi h.size) hn).trans (h.block i hi hn)⟩
theorem Ch.mono {S T : List Nat} {a b : World} (h : Ch S a b) (hs : ∀ k ∈ S, k ∈ T) : Ch T a b := ⟨h.os, h.tape, h.output, h.size, fun k hk hn => h.block k hk (fun e => hn (hs k e))⟩
theorem ch_grown {a b : World} {v : Value} (h : a.grownBy b v.ownBlock) : Ch (blk v) a b := ⟨h.os, h.tape, h.output, h.size, fun k hk hn => h.block k hk (fun e => hn (by unfold blk; rw [← e]; simp))⟩
theorem ch_below {S : List Nat} {a b : World} (h : Below a.heap.size a b) : Ch S a b := ⟨h.os, h.tape, h.output, h.size, fun k hk _ => h.block k hk⟩
theorem below_ch {S : List Nat} {B : Nat} {a b : World} (h : Ch S a b) (hb : B ≤ a.heap.size) (hs : ∀ k ∈ S, B ≤ k) : Below B a b := ⟨h.os, h.tape, h.output, h.size, fun k hk => h.block k (by omega) (fun e => by have := hs k e; omega)⟩
theorem row_ch {S : List Nat} {w w' : World} {base size n : Nat} {t : TypeId} {v : Value} {xs : List Value} (h : w.ownsRow base t size v n xs) (hc : Ch S w w') (hd : ∀ k ∈ blk v, k ∉ S) : w'.ownsRow base t size v n xs := by
  obtain ⟨h0, ⟨h1, h2⟩ | ⟨g, cap, cur, h1, hg, hh, hle, hm, hs, ht⟩⟩ := h
  · exact ⟨h0, .inl ⟨h1, h2⟩⟩
  · refine ⟨h0, .inr ⟨g, cap, cur, h1, hg, (hc.block g (lt_of_block hh) (hd g ?_)).trans hh, hle, hm, hs, ht⟩⟩
    rw [h1]; simp [blk, Value.ownBlock]
theorem blk_lt {w : World} {base n size : Nat} {t : TypeId} {v : Value} {xs : List Value} (h : w.ownsRow base t size v n xs) : ∀ k ∈ blk v, base ≤ k ∧ k < w.heap.size := fun k hk => World.ownsRow.lt h k (by unfold blk at hk; exact Option.mem_toList.1 hk)
theorem one_ch (Y : World) (b k : Nat) (u : Value) : Ch [b] Y (Y.setCell ⟨b, k, none⟩ u) := ⟨rfl, rfl, rfl, by simp, fun j _ hn => Below.heap_setCell Y _ u j (fun e => hn (by simp [e]))⟩
theorem bel_of_drewN {w w' : World} (h : ∃ n, w' = w.drewN n) : Below w.heap.size w w' := by
  obtain ⟨n, rfl⟩ := h
  exact ⟨rfl, rfl, rfl, Nat.le_refl _, fun _ _ => rfl⟩
theorem ints_slice {w : World} {v : Value} {xs : List Int} (h : IntsAt w v xs) : ∃ a n c, v = .slice a n c := by
  obtain ⟨a, c, e, _⟩ := h
  exact ⟨a, _, c, e⟩

/-- The blocks of a heap's four rows. -/
def hblk (vr vo vm vs : Value) : List Nat := blk vr ++ blk vo ++ blk vm ++ blk vs
/-- A heap of the call's own, no two rows in one block. -/
def OwnH (w : World) (base : Nat) (vr vo vm vs : Value) (H : Hp) : Prop := (Own w base vr H.row ∧ Own w base vo H.roots ∧ Own w base vm H.mourned ∧ Own w base vs H.seen) ∧ (hblk vr vo vm vs).Nodup
theorem ownH_at {w : World} {base : Nat} {vr vo vm vs : Value} {H : Hp} (h : OwnH w base vr vo vm vs H) : HpAt w vr vo vm vs H := ⟨own_ints h.1.1, own_ints h.1.2.1, own_ints h.1.2.2.1, own_ints h.1.2.2.2⟩
theorem ownH_below {w w' : World} {base : Nat} {vr vo vm vs : Value} {H : Hp} (h : OwnH w base vr vo vm vs H) (hb : Below w.heap.size w w') : OwnH w' base vr vo vm vs H := ⟨⟨own_below h.1.1 hb, own_below h.1.2.1 hb, own_below h.1.2.2.1 hb, own_below h.1.2.2.2 hb⟩, h.2⟩
theorem ownH_base {w : World} {base base' : Nat} {vr vo vm vs : Value} {H : Hp} (h : OwnH w base vr vo vm vs H) (hb : base' ≤ base) : OwnH w base' vr vo vm vs H := ⟨⟨own_base h.1.1 hb, own_base h.1.2.1 hb, own_base h.1.2.2.1 hb, own_base h.1.2.2.2 hb⟩, h.2⟩
theorem in_hblk {vr vo vm vs : Value} : (∀ k ∈ blk vr, k ∈ hblk vr vo vm vs) ∧ (∀ k ∈ blk vo, k ∈ hblk vr vo vm vs) ∧ (∀ k ∈ blk vm, k ∈ hblk vr vo vm vs) ∧ ∀ k ∈ blk vs, k ∈ hblk vr vo vm vs := by
  unfold hblk
  simp only [List.mem_append]
  exact ⟨fun k h => .inl (.inl (.inl h)), fun k h => .inl (.inl (.inr h)), fun k h => .inl (.inr h), fun k h => .inr h⟩
theorem ownH_lt {w : World} {base : Nat} {vr vo vm vs : Value} {H : Hp} (h : OwnH w base vr vo vm vs H) : ∀ k ∈ hblk vr vo vm vs, base ≤ k ∧ k < w.heap.size := by
  intro k hk
  simp only [hblk, List.mem_append] at hk
  rcases hk with ((hk | hk) | hk) | hk
  · exact blk_lt h.1.1 k hk
  · exact blk_lt h.1.2.1 k hk
  · exact blk_lt h.1.2.2.1 k hk
  · exact blk_lt h.1.2.2.2 k hk
theorem ownH_ch {S : List Nat} {w w' : World} {base : Nat} {vr vo vm vs : Value} {H : Hp} (h : OwnH w base vr vo vm vs H) (hc : Ch S w w') (hd : ∀ k ∈ hblk vr vo vm vs, k ∉ S) : OwnH w' base vr vo vm vs H := by
  obtain ⟨i1, i2, i3, i4⟩ := @in_hblk vr vo vm vs
  exact ⟨⟨row_ch h.1.1 hc (fun k hk => hd k (i1 k hk)), row_ch h.1.2.1 hc (fun k hk => hd k (i2 k hk)), row_ch h.1.2.2.1 hc (fun k hk => hd k (i3 k hk)), row_ch h.1.2.2.2 hc (fun k hk => hd k (i4 k hk))⟩, h.2⟩
theorem hblk_apart {vr vo vm vs : Value} (h : (hblk vr vo vm vs).Nodup) : ((∀ k ∈ blk vr, k ∉ blk vo) ∧ (∀ k ∈ blk vr, k ∉ blk vm) ∧ ∀ k ∈ blk vr, k ∉ blk vs) ∧ ((∀ k ∈ blk vo, k ∉ blk vm) ∧ ∀ k ∈ blk vo, k ∉ blk vs) ∧ ∀ k ∈ blk vm, k ∉ blk vs := by
  unfold hblk at h
  rw [List.nodup_append, List.nodup_append, List.nodup_append] at h
  obtain ⟨⟨⟨_, _, h1⟩, _, h2⟩, _, h3⟩ := h
  refine ⟨⟨fun k hk e => h1 k hk k e rfl, fun k hk e => h2 k (List.mem_append.2 (.inl hk)) k e rfl, fun k hk e => h3 k (List.mem_append.2 (.inl (List.mem_append.2 (.inl hk)))) k e rfl⟩, ⟨fun k hk e => h2 k (List.mem_append.2 (.inr hk)) k e rfl, fun k hk e => h3 k (List.mem_append.2 (.inl (List.mem_append.2 (.inr hk)))) k e rfl⟩, fun k hk e => h3 k (List.mem_append.2 (.inr hk)) k e rfl⟩
theorem nine_mk (w : World) (t : TypeId) (c0 c1 c2 c3 c4 c5 c6 c7 c8 : Value) : Nine (w.alloc (.cells #[c0, c1, c2, c3, c4, c5, c6, c7, c8] t)) w.heap.size t c0 c1 c2 c3 c4 c5 c6 c7 c8 := heap_alloc_new w _
theorem nine_ch {S : List Nat} {w w' : World} {b : Nat} {t : TypeId} {c0 c1 c2 c3 c4 c5 c6 c7 c8 : Value} (h : Nine w b t c0 c1 c2 c3 c4 c5 c6 c7 c8) (hc : Ch S w w') (hb : b ∉ S) : Nine w' b t c0 c1 c2 c3 c4 c5 c6 c7 c8 := (hc.block b (lt_of_block h) hb).trans h
theorem cells_setCell9 {w : World} {b : Nat} {c : Array Value} {t : TypeId} (h : w.heap[b]? = some (.cells c t (0, 0))) (k : Nat) (u : Value) :
    (w.setCell ⟨b, k, none⟩ u).heap[b]? = some (.cells (c.setIfInBounds k u) t (0, 0)) := block_setCell h k u
theorem nine_set0 {w : World} {b : Nat} {t : TypeId} {c0 c1 c2 c3 c4 c5 c6 c7 c8 : Value} (h : Nine w b t c0 c1 c2 c3 c4 c5 c6 c7 c8) (u : Value) : Nine (w.setCell ⟨b, 0, none⟩ u) b t u c1 c2 c3 c4 c5 c6 c7 c8 := (cells_setCell9 h 0 u).trans (by simp)
theorem nine_set1 {w : World} {b : Nat} {t : TypeId} {c0 c1 c2 c3 c4 c5 c6 c7 c8 : Value} (h : Nine w b t c0 c1 c2 c3 c4 c5 c6 c7 c8) (u : Value) : Nine (w.setCell ⟨b, 1, none⟩ u) b t c0 u c2 c3 c4 c5 c6 c7 c8 := (cells_setCell9 h 1 u).trans (by simp)
theorem nine_set2 {w : World} {b : Nat} {t : TypeId} {c0 c1 c2 c3 c4 c5 c6 c7 c8 : Value} (h : Nine w b t c0 c1 c2 c3 c4 c5 c6 c7 c8) (u : Value) : Nine (w.setCell ⟨b, 2, none⟩ u) b t c0 c1 u c3 c4 c5 c6 c7 c8 := (cells_setCell9 h 2 u).trans (by simp)
theorem nine_set3 {w : World} {b : Nat} {t : TypeId} {c0 c1 c2 c3 c4 c5 c6 c7 c8 : Value} (h : Nine w b t c0 c1 c2 c3 c4 c5 c6 c7 c8) (u : Value) : Nine (w.setCell ⟨b, 3, none⟩ u) b t c0 c1 c2 u c4 c5 c6 c7 c8 := (cells_setCell9 h 3 u).trans (by simp)
theorem nine_set4 {w : World} {b : Nat} {t : TypeId} {c0 c1 c2 c3 c4 c5 c6 c7 c8 : Value} (h : Nine w b t c0 c1 c2 c3 c4 c5 c6 c7 c8) (u : Value) : Nine (w.setCell ⟨b, 4, none⟩ u) b t c0 c1 c2 c3 u c5 c6 c7 c8 := (cells_setCell9 h 4 u).trans (by simp)
theorem nine_set5 {w : World} {b : Nat} {t : TypeId} {c0 c1 c2 c3 c4 c5 c6 c7 c8 : Value} (h : Nine w b t c0 c1 c2 c3 c4 c5 c6 c7 c8) (u : Value) : Nine (w.setCell ⟨b, 5, none⟩ u) b t c0 c1 c2 c3 c4 u c6 c7 c8 := (cells_setCell9 h 5 u).trans (by simp)
theorem nine_set6 {w : World} {b : Nat} {t : TypeId} {c0 c1 c2 c3 c4 c5 c6 c7 c8 : Value} (h : Nine w b t c0 c1 c2 c3 c4 c5 c6 c7 c8) (u : Value) : Nine (w.setCell ⟨b, 6, none⟩ u) b t c0 c1 c2 c3 c4 c5 u c7 c8 := (cells_setCell9 h 6 u).trans (by simp)
theorem nine_set7 {w : World} {b : Nat} {t : TypeId} {c0 c1 c2 c3 c4 c5 c6 c7 c8 : Value} (h : Nine w b t c0 c1 c2 c3 c4 c5 c6 c7 c8) (u : Value) : Nine (w.setCell ⟨b, 7, none⟩ u) b t c0 c1 c2 c3 c4 c5 c6 u c8 := (cells_setCell9 h 7 u).trans (by simp)
theorem nine_set8 {w : World} {b : Nat} {t : TypeId} {c0 c1 c2 c3 c4 c5 c6 c7 c8 : Value} (h : Nine w b t c0 c1 c2 c3 c4 c5 c6 c7 c8) (u : Value) : Nine (w.setCell ⟨b, 8, none⟩ u) b t c0 c1 c2 c3 c4 c5 c6 c7 u := (cells_setCell9 h 8 u).trans (by simp)
theorem nine_sets {w : World} {b : Nat} {t : TypeId} {c0 c1 c2 c3 c4 c5 c6 c7 c8 : Value} (h : Nine w b t c0 c1 c2 c3 c4 c5 c6 c7 c8) (u0 u1 u2 u3 u4 u5 u6 u7 u8 : Value) : Nine (((((((((w.setCell ⟨b, 0, none⟩ u0).setCell ⟨b, 1, none⟩ u1).setCell ⟨b, 2, none⟩ u2).setCell ⟨b, 3, none⟩ u3).setCell ⟨b, 4, none⟩ u4).setCell ⟨b, 5, none⟩ u5).setCell ⟨b, 6, none⟩ u6).setCell ⟨b, 7, none⟩ u7).setCell ⟨b, 8, none⟩ u8) b t u0 u1 u2 u3 u4 u5 u6 u7 u8 := (nine_set8 (nine_set7 (nine_set6 (nine_set5 (nine_set4 (nine_set3 (nine_set2 (nine_set1 (nine_set0 h _) _) _) _) _) _) _) _) _)
theorem nine_belows {n : Nat} {w X : World} {b : Nat} (hB : Below n w X) (hb : n ≤ b) (u0 u1 u2 u3 u4 u5 u6 u7 u8 : Value) : Below n w (((((((((X.setCell ⟨b, 0, none⟩ u0).setCell ⟨b, 1, none⟩ u1).setCell ⟨b, 2, none⟩ u2).setCell ⟨b, 3, none⟩ u3).setCell ⟨b, 4, none⟩ u4).setCell ⟨b, 5, none⟩ u5).setCell ⟨b, 6, none⟩ u6).setCell ⟨b, 7, none⟩ u7).setCell ⟨b, 8, none⟩ u8) := (Below.setCell (Below.setCell (Below.setCell (Below.setCell (Below.setCell (Below.setCell (Below.setCell (Below.setCell (Below.setCell hB (p := ⟨b, 0, none⟩) hb _) (p := ⟨b, 1, none⟩) hb _) (p := ⟨b, 2, none⟩) hb _) (p := ⟨b, 3, none⟩) hb _) (p := ⟨b, 4, none⟩) hb _) (p := ⟨b, 5, none⟩) hb _) (p := ⟨b, 6, none⟩) hb _) (p := ⟨b, 7, none⟩) hb _) (p := ⟨b, 8, none⟩) hb _)
theorem nine_other {X : World} {b : Nat} (u0 u1 u2 u3 u4 u5 u6 u7 u8 : Value) : Ch [b] X (((((((((X.setCell ⟨b, 0, none⟩ u0).setCell ⟨b, 1, none⟩ u1).setCell ⟨b, 2, none⟩ u2).setCell ⟨b, 3, none⟩ u3).setCell ⟨b, 4, none⟩ u4).setCell ⟨b, 5, none⟩ u5).setCell ⟨b, 6, none⟩ u6).setCell ⟨b, 7, none⟩ u7).setCell ⟨b, 8, none⟩ u8) := (Ch.trans (Ch.trans (Ch.trans (Ch.trans (Ch.trans (Ch.trans (Ch.trans (Ch.trans (one_ch _ _ _ _) (one_ch _ _ _ _)) (one_ch _ _ _ _)) (one_ch _ _ _ _)) (one_ch _ _ _ _)) (one_ch _ _ _ _)) (one_ch _ _ _ _)) (one_ch _ _ _ _)) (one_ch _ _ _ _))
theorem res_heap {fn : Func} {tmps : Array Value} {X : World} {j b : Nat} {a1 a2 a3 a4 : Option Addr} {n1 d1 n2 d2 n3 d3 n4 d4 : Nat} {x0 x1 x3 x4 x8 : Int} (hf : fn.results = #[.cell j 27]) (h2 : tmps[j]? = some (.pointer (some ⟨b, 0, none⟩))) (hX : Nine X b 27 (.int .i64 x0) (.int .i64 x1) (.slice a1 n1 d1) (.int .i64 x3) (.int .i64 x4) (.slice a2 n2 d2) (.slice a3 n3 d3) (.slice a4 n4 d4) (.int .i64 x8)) :
    (results fn tmps).run Tryz.prog X = .ok (.agg #[.int .i64 x0, .int .i64 x1, .slice a1 n1 d1, .int .i64 x3, .int .i64 x4, .slice a2 n2 d2, .slice a3 n3 d3, .slice a4 n4 d4, .int .i64 x8]) X := by
  obtain ⟨⟨k0, k1, k2, k3, k4⟩, ⟨k5, k6, k7, k8⟩, _⟩ := nine_cells hX
  clear hX
  simp [results, hf, h2, go_sem, k0, k1, k2, k3, k4, k5, k6, k7, k8]
theorem res_heap2 {fn : Func} {tmps : Array Value} {X : World} {j i b : Nat} {bb : Bool} {a1 a2 a3 a4 : Option Addr} {n1 d1 n2 d2 n3 d3 n4 d4 : Nat} {x0 x1 x3 x4 x8 : Int} (hf : fn.results = #[.cell j 27, .tmp i]) (h2 : tmps[j]? = some (.pointer (some ⟨b, 0, none⟩))) (h3 : tmps[i]? = some (.bool bb)) (hX : Nine X b 27 (.int .i64 x0) (.int .i64 x1) (.slice a1 n1 d1) (.int .i64 x3) (.int .i64 x4) (.slice a2 n2 d2) (.slice a3 n3 d3) (.slice a4 n4 d4) (.int .i64 x8)) :
    (results fn tmps).run Tryz.prog X = .ok (.tuple #[.agg #[.int .i64 x0, .int .i64 x1, .slice a1 n1 d1, .int .i64 x3, .int .i64 x4, .slice a2 n2 d2, .slice a3 n3 d3, .slice a4 n4 d4, .int .i64 x8], .bool bb]) X := by
  obtain ⟨⟨k0, k1, k2, k3, k4⟩, ⟨k5, k6, k7, k8⟩, _⟩ := nine_cells hX
  clear hX
  simp [results, hf, h2, h3, go_sem, k0, k1, k2, k3, k4, k5, k6, k7, k8]
end Go.Proofs.YtfbopegdldoocaaGreat.hp
