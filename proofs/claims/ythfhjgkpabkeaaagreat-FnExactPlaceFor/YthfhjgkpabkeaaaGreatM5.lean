/-
  Chapter 5 as the specification has it: ClassesOk. Chunks in memory: a block that holds one; what is read and stored of it.
-/
import Derived.Test.YthfhjgkpabkeaaaGreatM4
namespace Go.Proofs.YthfhjgkpabkeaaaGreat.ents
open Go.RowKit rows heads

end Go.Proofs.YthfhjgkpabkeaaaGreat.ents
namespace Go.Proofs.YthfhjgkpabkeaaaGreat.heads
open Go.RowKit
set_option maxRecDepth 100000

/-- A chunk as a value: its head's six fields and its words. -/
abbrev cv (s f c h : Int) (p m : Bool) (u : Value) : Value := .agg #[.int .i64 s, .int .i64 f, .int .i64 c, .int .i64 h, .bool p, .bool m, u]
/-- The block in which a chunk lies. -/
abbrev cb (s f c h : Int) (p m : Bool) (u : Value) : Obj := .cells #[.int .i64 s, .int .i64 f, .int .i64 c, .int .i64 h, .bool p, .bool m, u] 70
/-- The block b holds such a chunk. -/
def ChAt (w : World) (b : Nat) (s f c h : Int) (p m : Bool) (u : Value) : Prop := w.heap[b]? = some (.cells #[.int .i64 s, .int .i64 f, .int .i64 c, .int .i64 h, .bool p, .bool m, u] 70 (0, 0))

theorem chAt_cells {w : World} {b : Nat} {s f c h : Int} {p m : Bool} {u : Value} (hh : ChAt w b s f c h p m u) :
    w.cell? ⟨b, 0, none⟩ = some (.int .i64 s) ∧ w.cell? ⟨b, 1, none⟩ = some (.int .i64 f) ∧ w.cell? ⟨b, 2, none⟩ = some (.int .i64 c) ∧ w.cell? ⟨b, 3, none⟩ = some (.int .i64 h) ∧ w.cell? ⟨b, 4, none⟩ = some (.bool p) ∧ w.cell? ⟨b, 5, none⟩ = some (.bool m) ∧ w.cell? ⟨b, 6, none⟩ = some u ∧ ∀ k, w.frozen? ⟨b, k, none⟩ = false := by
  unfold ChAt at hh
  refine ⟨?_, ?_, ?_, ?_, ?_, ?_, ?_, fun k => ?_⟩
  all_goals simp [World.cell?, World.frozen?, hh]
theorem chAt_new (w : World) (s f c h : Int) (p m : Bool) (u : Value) : ChAt (w.alloc (cb s f c h p m u)) w.heap.size s f c h p m u := heap_alloc_new w _
theorem chAt_alloc {w : World} {b : Nat} {s f c h : Int} {p m : Bool} {u : Value} (hh : ChAt w b s f c h p m u) (o : Obj) : ChAt (w.alloc o) b s f c h p m u := (Below.heap_alloc w o b (lt_of_block hh)).trans hh
theorem chAt_below {w w' : World} {b : Nat} {s f c h : Int} {p m : Bool} {u : Value} (T : ChAt w b s f c h p m u) (hb : Below w.heap.size w w') : ChAt w' b s f c h p m u := (hb.block b (lt_of_block T)).trans T
theorem chAt_set0 {w : World} {b : Nat} {s f c h : Int} {p m : Bool} {u : Value} (hh : ChAt w b s f c h p m u) (x : Int) : ChAt (w.setCell ⟨b, 0, none⟩ (.int .i64 x)) b x f c h p m u := (cells_setCell hh 0 _).trans rfl
theorem chAt_set1 {w : World} {b : Nat} {s f c h : Int} {p m : Bool} {u : Value} (hh : ChAt w b s f c h p m u) (x : Int) : ChAt (w.setCell ⟨b, 1, none⟩ (.int .i64 x)) b s x c h p m u := (cells_setCell hh 1 _).trans rfl
theorem chAt_set2 {w : World} {b : Nat} {s f c h : Int} {p m : Bool} {u : Value} (hh : ChAt w b s f c h p m u) (x : Int) : ChAt (w.setCell ⟨b, 2, none⟩ (.int .i64 x)) b s f x h p m u := (cells_setCell hh 2 _).trans rfl
theorem chAt_set3 {w : World} {b : Nat} {s f c h : Int} {p m : Bool} {u : Value} (hh : ChAt w b s f c h p m u) (x : Int) : ChAt (w.setCell ⟨b, 3, none⟩ (.int .i64 x)) b s f c x p m u := (cells_setCell hh 3 _).trans rfl
theorem chAt_set4 {w : World} {b : Nat} {s f c h : Int} {p m : Bool} {u : Value} (hh : ChAt w b s f c h p m u) (x : Bool) : ChAt (w.setCell ⟨b, 4, none⟩ (.bool x)) b s f c h x m u := (cells_setCell hh 4 _).trans rfl
theorem chAt_set5 {w : World} {b : Nat} {s f c h : Int} {p m : Bool} {u : Value} (hh : ChAt w b s f c h p m u) (x : Bool) : ChAt (w.setCell ⟨b, 5, none⟩ (.bool x)) b s f c h p x u := (cells_setCell hh 5 _).trans rfl
theorem chAt_set6 {w : World} {b : Nat} {s f c h : Int} {p m : Bool} {u : Value} (hh : ChAt w b s f c h p m u) (x : Value) : ChAt (w.setCell ⟨b, 6, none⟩ x) b s f c h p m x := (cells_setCell hh 6 _).trans rfl
theorem seven_set {X : World} {b : Nat} {s' f' c' h' : Int} {p' m' : Bool} {u' : Value} (T : ChAt X b s' f' c' h' p' m' u') (s f c h : Int) (p m : Bool) (u : Value) :
    ChAt (((((((X.setCell ⟨b, 0, none⟩ (.int .i64 s)).setCell ⟨b, 1, none⟩ (.int .i64 f)).setCell ⟨b, 2, none⟩ (.int .i64 c)).setCell ⟨b, 3, none⟩ (.int .i64 h)).setCell ⟨b, 4, none⟩ (.bool p)).setCell ⟨b, 5, none⟩ (.bool m)).setCell ⟨b, 6, none⟩ u) b s f c h p m u := 
  chAt_set6 (chAt_set5 (chAt_set4 (chAt_set3 (chAt_set2 (chAt_set1 (chAt_set0 T _) _) _) _) _) _) _
theorem seven_below {n : Nat} {w X : World} {b : Nat} (hB : Below n w X) (hb : n ≤ b) (s f c h : Int) (p m : Bool) (u : Value) : Below n w (((((((X.setCell ⟨b, 0, none⟩ (.int .i64 s)).setCell ⟨b, 1, none⟩ (.int .i64 f)).setCell ⟨b, 2, none⟩ (.int .i64 c)).setCell ⟨b, 3, none⟩ (.int .i64 h)).setCell ⟨b, 4, none⟩ (.bool p)).setCell ⟨b, 5, none⟩ (.bool m)).setCell ⟨b, 6, none⟩ u) :=
  (six_below hB hb s f c h p m).setCell (p := ⟨b, 6, none⟩) hb _
theorem res_chunk_one {fn : Func} {tmps : Array Value} {X : World} {j k b : Nat} {s f c h : Int} {p m : Bool} {u v : Value} (hf : fn.results = #[.cell j 70, .tmp k]) (h2 : tmps[j]? = some (.pointer (some ⟨b, 0, none⟩))) (hk : tmps[k]? = some v) (hX : ChAt X b s f c h p m u) :
    (results fn tmps).run Tryz.prog X = .ok (.tuple #[cv s f c h p m u, v]) X := by
  obtain ⟨k0, k1, k2, k3, k4, k5, k6, _⟩ := chAt_cells hX
  clear hX
  simp [results, hf, h2, hk, go_sem, k0, k1, k2, k3, k4, k5, k6]
theorem res_head_one {fn : Func} {tmps : Array Value} {X : World} {j k b : Nat} {s f c h : Int} {p m : Bool} {v : Value} (hf : fn.results = #[.cell j 61, .tmp k]) (h2 : tmps[j]? = some (.pointer (some ⟨b, 0, none⟩))) (hk : tmps[k]? = some v) (hX : HeadAt X b s f c h p m) :
    (results fn tmps).run Tryz.prog X = .ok (.tuple #[hv s f c h p m, v]) X := by
  obtain ⟨k0, k1, k2, k3, k4, k5, _⟩ := headAt_cells hX
  clear hX
  simp [results, hf, h2, hk, go_sem, k0, k1, k2, k3, k4, k5]

theorem size_any (s f c h : Int) (p m : Bool) (a : Option Addr) (len cap : Nat) (w : World) :
    Calls Tryz.prog 57 #[cv s f c h p m (.slice a len cap)] w fun e w' => e = .returned (.int .i64 len) ∧ w' = w.alloc (cb s f c h p m (.slice a len cap)) := by
  go_enter Tryz.func57, Tryz.ntmps57
  go_wp2
  go_ret
  exact ⟨rfl, rfl⟩
theorem isNote_any (s f c h : Int) (p m : Bool) (u : Value) (w : World) :
    Calls Tryz.prog 50 #[cv s f c h p m u] w fun e w' => e = .returned (.bool (f == 7)) ∧ w' = w.alloc (cb s f c h p m u) := by
  go_enter Tryz.func50, Tryz.ntmps50
  go_wp2
  go_ret
  exact ⟨rfl, rfl⟩
end Go.Proofs.YthfhjgkpabkeaaaGreat.heads
