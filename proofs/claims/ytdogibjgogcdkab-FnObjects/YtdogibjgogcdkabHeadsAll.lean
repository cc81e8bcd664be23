/-
  What the law of chapter 2 needs beside the contracts: packed and told again; a region that leaves its order open and makes memory.
  Made from the template HeadsAll.
-/
import Derived.Test.YtdogibjgogcdkabUnpack
import Derived.Test.YtdogibjgogcdkabSize
import Derived.Test.YtdogibjgogcdkabStrong
import Derived.Test.YtdogibjgogcdkabDrawHeads
import Derived.Deep.QuietTactic
import Derived.BigQuiet
namespace Go.Proofs.Ytdogibjgogcdkab.heads
open Go.RowKit draw
set_option maxRecDepth 100000

theorem below_two (w : World) (o1 o2 : Obj) : Below w.heap.size w ((w.alloc o1).alloc o2) := ((Below.refl _ _).alloc (Nat.le_refl _) o1).alloc (by simp) o2

theorem packed_below (s f c h : Int) (p m : Bool) (w : World) :
    Calls Try.prog 65 #[hv s f c h p m] w fun e w' => e = .returned (.int .i64 (pkd s f c h p m)) ∧ Below w.heap.size w w' :=
  (packed_any s f c h p m w).mono fun _ _ ⟨he, hw⟩ => ⟨he, hw ▸ below_two _ _ _⟩
theorem headOk_below (s f c h : Int) (p m : Bool) (w : World) :
    Calls Try.prog 122 #[hv s f c h p m] w fun e w' => e = .returned (.bool (hok s f c h p m)) ∧ Below w.heap.size w w' :=
  (headOk_any s f c h p m w).mono fun _ _ ⟨he, hw⟩ => ⟨he, hw ▸ (Below.refl _ _).alloc (Nat.le_refl _) _⟩
theorem sHeadOk_below (s f c h : Int) (p m : Bool) (w : World) :
    Calls Try.prog 71 #[hv s f c h p m] w fun e w' => e = .returned (.bool (hok s f c h p m)) ∧ Below w.heap.size w w' :=
  (sHeadOk_any s f c h p m w).mono fun _ _ ⟨he, hw⟩ => ⟨he, hw ▸ (Below.refl _ _).alloc (Nat.le_refl _) _⟩
/-- What a right head is packed as is told as that head. -/
theorem told {s f c h : Int} {p m : Bool} (hk : hok s f c h p m = true) :
    ok (pk s f c h p m) = true ∧ uS (pk s f c h p m) = s ∧ uF (pk s f c h p m) = f ∧ uC (pk s f c h p m) = c ∧ uH (pk s f c h p m) = h ∧ uP (pk s f c h p m) = p ∧ uM (pk s f c h p m) = m := by
  obtain ⟨b1, b2, b3, b4, b5, b6, b7, b8⟩ := hok_true hk
  have q0 : bS (pk s f c h p m) = s := by unfold pk; simp only [bS]; split <;> split <;> omega
  have q1 : bF (pk s f c h p m) = f := by unfold pk; simp only [bF]; split <;> split <;> omega
  have q2 : bC (pk s f c h p m) = c := by unfold pk; simp only [bC]; split <;> split <;> omega
  have q3 : bH (pk s f c h p m) = h := by unfold pk; simp only [bH]; split <;> split <;> omega
  have q4 : bP (pk s f c h p m) = p := by
    cases p <;> cases m <;> simp [bP, pk] <;> omega
  have q5 : bM (pk s f c h p m) = m := by
    cases p <;> cases m <;> simp [bM, pk] <;> omega
  have hl := pk_least hk
  have ho : ok (pk s f c h p m) = true := by
    unfold ok
    rw [q0, q1, q2, q3, q4, q5]
    simp [pkd, hk, hl.1]
  refine ⟨ho, ?_, ?_, ?_, ?_, ?_, ?_⟩
  · simp only [uS, ho, if_true, q0]
  · simp only [uF, ho, if_true, q1]
  · simp only [uC, ho, if_true, q2]
  · simp only [uH, ho, if_true, q3]
  · simp only [uP, ho, if_true, q4]
  · simp only [uM, ho, if_true, q5]

/-- What a number is told as is packed as that number. -/
theorem again {n : Int} (ho : ok n = true) : pkd (uS n) (uF n) (uC n) (uH n) (uP n) (uM n) = n := by
  have h := ho
  unfold ok at h
  simp only [uS, uF, uC, uH, uP, uM, ho, if_true]
  simp at h
  exact h.2

/-- The worlds that grow out of one. -/
def Ext (n : Nat) (w : World) : Type := { w' : World // Below n w w' }
def Ext.to {n : Nat} {w : World} (x : Ext n w) : World := x.1
theorem Ext.below {n : Nat} {w : World} (x : Ext n w) : Below n w x.to := x.2
theorem Ext.of {n : Nat} {w w' : World} (h : Below n w w') : ∃ x : Ext n w, w' = x.to := ⟨⟨w', h⟩, rfl⟩

theorem region_grow {P : Program} {id n : Nat} {Q : Exit → Act → World → Prop} {a : Act} {w : World} {l : List Oper} (hm : P.follows .mixedOrders = true) (hB : Region.lexB .any l.toArray = true)
    (h : wpQuiet P l.toArray (fun w' => ∃ x : Ext n w, w' = x.to) (fun a' => ∀ w', (∃ x : Ext n w, w' = x.to) → Q .normal a' w') l a) : (Code.region id l.toArray true).wp P Q a w :=
  wp_region_quiet (C := fun w' => ∃ x : Ext n w, w' = x.to) hm hB (Ext.of (Below.refl n w).drew) (by simpa using h)

theorem calls_grow {P : Program} {f : FuncId} {args : Array Value} {n : Nat} {w : World} {x : Ext n w} {v : Value} (hn : n ≤ w.heap.size)
    (h : Calls P f args x.to fun e w' => e = .returned v ∧ Below x.to.heap.size x.to w') : Calls P f args x.to fun e w'' => e = .returned v ∧ ∃ y : Ext n w, w'' = y.to :=
  h.mono fun _ _ ⟨he, hb⟩ => ⟨he, Ext.of (x.below.trans (hb.mono (Nat.le_trans hn x.below.size)))⟩

theorem headAt_grow {n : Nat} {w : World} {b : Nat} {s f c h : Int} {p m : Bool} (T : HeadAt w b s f c h p m) (hb : b < n) :
    (∀ x : Ext n w, x.to.cell? ⟨b, 0, none⟩ = some (.int .i64 s)) ∧ (∀ x : Ext n w, x.to.cell? ⟨b, 1, none⟩ = some (.int .i64 f)) ∧ (∀ x : Ext n w, x.to.cell? ⟨b, 2, none⟩ = some (.int .i64 c)) ∧
    (∀ x : Ext n w, x.to.cell? ⟨b, 3, none⟩ = some (.int .i64 h)) ∧ (∀ x : Ext n w, x.to.cell? ⟨b, 4, none⟩ = some (.bool p)) ∧ (∀ x : Ext n w, x.to.cell? ⟨b, 5, none⟩ = some (.bool m)) := by
  obtain ⟨k0, k1, k2, k3, k4, k5, _⟩ := headAt_cells T
  exact ⟨fun x => (x.below.cell (p := ⟨b, 0, none⟩) hb).trans k0, fun x => (x.below.cell (p := ⟨b, 1, none⟩) hb).trans k1, fun x => (x.below.cell (p := ⟨b, 2, none⟩) hb).trans k2,
    fun x => (x.below.cell (p := ⟨b, 3, none⟩) hb).trans k3, fun x => (x.below.cell (p := ⟨b, 4, none⟩) hb).trans k4, fun x => (x.below.cell (p := ⟨b, 5, none⟩) hb).trans k5⟩

/-- Sizes are even, hold all and no more than one beside it. -/
theorem sz_yes {n : Int} (i : inR 0 20 n = true) : sz n % 2 = 0 ∧ n + 1 ≤ sz n ∧ sz n ≤ n + 2 ∧ 2 ≤ sz n ∧ sz n ≤ 22 ∧ 0 ≤ n ∧ n ≤ 20 := by
  obtain ⟨h0, h1⟩ := inR_true i
  unfold sz
  rw [if_pos i]
  omega
end Go.Proofs.Ytdogibjgogcdkab.heads
