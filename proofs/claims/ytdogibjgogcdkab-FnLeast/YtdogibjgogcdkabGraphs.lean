/-
  Graphs in memory, and what the laws do with them.
  Made from the template Graphs.
-/
import Derived.Test.YtdogibjgogcdkabObjsM
namespace Go.Proofs.Ytdogibjgogcdkab.gr
open Go.RowKit rows heads
set_option maxRecDepth 100000

structure Gr where
  objs : List Ob
  roots : List Rf
  mourned : List Rf
  next : Int
  seed : Int
/-- A graph as a value. -/
abbrev gv (o r m : Value) (n s : Int) : Value := .agg #[o, r, m, .int .i64 n, .int .i64 s]
abbrev gb (o r m : Value) (n s : Int) : Obj := .cells #[o, r, m, .int .i64 n, .int .i64 s] 55
/-- A graph that may be read. -/
def GraphAt (w : World) (o r m : Value) (ms : List MO) (G : Gr) : Prop := ms.map MO.abs = G.objs ∧ ObjsAt w o ms ∧ RefsAt w r G.roots ∧ RefsAt w m G.mourned
def gblk (o r m : Value) (ms : List MO) : List Nat := blk o ++ blks ms ++ blk r ++ blk m
/-- A graph of the call's own, no two rows in one block. -/
def OwnG (w : World) (base : Nat) (o r m : Value) (ms : List MO) (G : Gr) : Prop := ms.map MO.abs = G.objs ∧ OwnO w base o ms ∧ OwnR w base r G.roots ∧ OwnR w base m G.mourned ∧ (gblk o r m ms).Nodup
theorem ownG_at {w : World} {base : Nat} {o r m : Value} {ms : List MO} {G : Gr} (h : OwnG w base o r m ms G) : GraphAt w o r m ms G := ⟨h.1, ownO_at h.2.1, ownR_refs h.2.2.1, ownR_refs h.2.2.2.1⟩
theorem graphAt_below {w w' : World} {o r m : Value} {ms : List MO} {G : Gr} (h : GraphAt w o r m ms G) (hb : Below w.heap.size w w') : GraphAt w' o r m ms G := ⟨h.1, objsAt_below h.2.1 hb, refsAt_below h.2.2.1 hb, refsAt_below h.2.2.2 hb⟩
theorem ownG_below {w w' : World} {base : Nat} {o r m : Value} {ms : List MO} {G : Gr} (h : OwnG w base o r m ms G) (hb : Below w.heap.size w w') : OwnG w' base o r m ms G := ⟨h.1, ownO_below h.2.1 hb, ownR_below h.2.2.1 hb, ownR_below h.2.2.2.1 hb, h.2.2.2.2⟩
theorem ownG_base {w : World} {base base' : Nat} {o r m : Value} {ms : List MO} {G : Gr} (h : OwnG w base o r m ms G) (hb : base' ≤ base) : OwnG w base' o r m ms G := ⟨h.1, ownO_base h.2.1 hb, ownR_base h.2.2.1 hb, ownR_base h.2.2.2.1 hb, h.2.2.2.2⟩
theorem ownG_lt {w : World} {base : Nat} {o r m : Value} {ms : List MO} {G : Gr} (h : OwnG w base o r m ms G) : ∀ k ∈ gblk o r m ms, base ≤ k ∧ k < w.heap.size := by
  intro k hk
  simp only [gblk, List.mem_append] at hk
  rcases hk with ((hk | hk) | hk) | hk
  · exact blks_lt h.2.1 k (by simp only [List.mem_append]; exact .inl hk)
  · exact blks_lt h.2.1 k (by simp only [List.mem_append]; exact .inr hk)
  · exact blk_lt h.2.2.1 k hk
  · exact blk_lt h.2.2.2.1 k hk
theorem ownG_ch {S : List Nat} {w w' : World} {base : Nat} {o r m : Value} {ms : List MO} {G : Gr} (h : OwnG w base o r m ms G) (hc : Ch S w w') (hd : ∀ k ∈ gblk o r m ms, k ∉ S) : OwnG w' base o r m ms G := by
  refine ⟨h.1, ownO_ch h.2.1 hc (fun k hk => hd k ?_), row_ch h.2.2.1 hc (fun k hk => hd k ?_), row_ch h.2.2.2.1 hc (fun k hk => hd k ?_), h.2.2.2.2⟩
  · simp only [gblk, List.mem_append] at hk ⊢; exact .inl (.inl hk)
  · simp only [gblk, List.mem_append] at hk ⊢; exact .inl (.inr hk)
  · simp only [gblk, List.mem_append] at hk ⊢; exact .inr hk

/-- How much a graph holds. -/
def gSize (ms : List MO) (G : Gr) : Nat := ms.length + slotsLen ms + G.roots.length + G.mourned.length
theorem gSize_slots {ms : List MO} {G : Gr} (h : gSize ms G ≤ 1048576) : ∀ m ∈ ms, m.slots.length ≤ 1048576 := fun m hm => by
  have := slots_le hm
  unfold gSize at h
  omega

end Go.Proofs.Ytdogibjgogcdkab.gr
