/-
  Chapter 6 as the program has it: GMade. The drawn region of l6Copy: two lists copied into a new graph, whatever the order. The drawn region of l6Copy, walked by facts. Chapter 6 as the specification has it: a graph copied whole. Chapter 6 as the specification has it: GMade. Chapter 6 as the program has it: GStored. Chapter 6 as the specification has it: GStored. Chapter 6 as the program has it: GFetched. Chapter 6 as the specification has it: GFetched. Chapter 6: no answer is greater than the laws go. Chapter 6: right graphs stay right, whatever is made, stored, fetched, put or copied. Two graphs held against each other by laws.likeGraph: the same graph is alike. A region that leaves its order open and whose calls make memory: by the class of the worlds that grow out of one.
-/
import Derived.Test.YtdogibjgogcdkabGraphIEdit2
import Derived.Test.YtdogibjgogcdkabGraphEd5i
import Derived.Test.YtdogibjgogcdkabGraphsL
import Derived.Test.YtdogibjgogcdkabRefsA
import Derived.Test.YtdogibjgogcdkabRegionHas
import Derived.Test.YtdogibjgogcdkabGraphE
import Derived.Deep.Cut
import Derived.Deep.CutRange
import Derived.Lib.Hide
import Derived.Deep.AppendLies
import Derived.Test.YtdogibjgogcdkabGraphEd5
import Derived.Test.YtdogibjgogcdkabGraphEd4
import Derived.Test.YtdogibjgogcdkabGraphEd3
import Derived.Test.YtdogibjgogcdkabGraphEd3s
import Derived.Test.YtdogibjgogcdkabGraphISlot
import Derived.Test.YtdogibjgogcdkabGraphD
import Derived.Test.YtdogibjgogcdkabRows
import Derived.WalkKit
import Derived.Below
import Derived.Deep.QuietTactic
import Derived.BigQuiet
namespace Go.Proofs.Ytdogibjgogcdkab.gr
open Go.RowKit rows heads
set_option maxRecDepth 100000

theorem egGMade : ∀ args w, (callFunc 98 args).run Try.prog w = .ok (.enter 98 args) w := fun args w => by go_simp
set_option maxHeartbeats 8000000 in
theorem implGMade {w : World} {o r m : Value} {ms : List MO} {G : Gr} (h : GraphAt w o r m ms G) (hs : gSize ms G ≤ 1048576) (x : Int) (c : Int) (f : Int) (s : Int) :
    Calls Try.prog 32 #[gv o r m G.next G.seed, .int .i64 x, .int .i64 c, .int .i64 f, .int .i64 s] w fun e w' => ∃ o' r' m' rs, e = .returned (.tuple #[gv o' r' m' (gMade G x c f s).1.next (gMade G x c f s).1.seed, .bool (gMade G x c f s).2]) ∧ OwnG w' w.heap.size o' r' m' rs (gMade G x c f s).1 ∧ Below w.heap.size w w' := by
  obtain ⟨a1, n1, c1, a2, n2, c2, a3, n3, c3, e1, e2, e3⟩ := graphAt_slices h
  subst e1 e2 e3
  generalize hn0 : w.heap.size = n0 at *
  obtain ⟨X, hX⟩ : ∃ X, X = ((((((w.alloc (gb (.slice a1 n1 c1) (.slice a2 n2 c2) (.slice a3 n3 c3) G.next G.seed)).alloc (.cells #[.int .i64 x] 2)).alloc (.cells #[.int .i64 c] 2)).alloc (.cells #[.int .i64 f] 2)).alloc (.cells #[.int .i64 s] 2)).alloc (gb (.slice none 0 0) (.slice none 0 0) (.slice none 0 0) 0 0)) := ⟨_, rfl⟩
  have sX : X.heap.size = n0 + 6 := by rw [hX]; simp; omega
  have B0 : Below n0 w X := by rw [hX]; exact (((((((Below.refl _ w).alloc (by first | omega | (simp; omega)) _).alloc (by first | omega | (simp; omega)) _).alloc (by first | omega | (simp; omega)) _).alloc (by first | omega | (simp; omega)) _).alloc (by first | omega | (simp; omega)) _).alloc (by first | omega | (simp; omega)) _)
  have K1 : X.heap[n0 + 1]? = some (.cells #[.int .i64 x] 2) := by
    rw [hX, show n0 + 1 = (w.alloc (gb (.slice a1 n1 c1) (.slice a2 n2 c2) (.slice a3 n3 c3) G.next G.seed)).heap.size by simp; omega]
    exact heap_push (heap_push (heap_push (heap_push (heap_alloc_new _ _))))
  have k1 : X.cell? ⟨n0 + 1, 0, none⟩ = some (.int .i64 x) := by simp [World.cell?, K1]
  have K2 : X.heap[n0 + 2]? = some (.cells #[.int .i64 c] 2) := by
    rw [hX, show n0 + 2 = ((w.alloc (gb (.slice a1 n1 c1) (.slice a2 n2 c2) (.slice a3 n3 c3) G.next G.seed)).alloc (.cells #[.int .i64 x] 2)).heap.size by simp; omega]
    exact heap_push (heap_push (heap_push (heap_alloc_new _ _)))
  have k2 : X.cell? ⟨n0 + 2, 0, none⟩ = some (.int .i64 c) := by simp [World.cell?, K2]
  have K3 : X.heap[n0 + 3]? = some (.cells #[.int .i64 f] 2) := by
    rw [hX, show n0 + 3 = (((w.alloc (gb (.slice a1 n1 c1) (.slice a2 n2 c2) (.slice a3 n3 c3) G.next G.seed)).alloc (.cells #[.int .i64 x] 2)).alloc (.cells #[.int .i64 c] 2)).heap.size by simp; omega]
    exact heap_push (heap_push (heap_alloc_new _ _))
  have k3 : X.cell? ⟨n0 + 3, 0, none⟩ = some (.int .i64 f) := by simp [World.cell?, K3]
  have K4 : X.heap[n0 + 4]? = some (.cells #[.int .i64 s] 2) := by
    rw [hX, show n0 + 4 = ((((w.alloc (gb (.slice a1 n1 c1) (.slice a2 n2 c2) (.slice a3 n3 c3) G.next G.seed)).alloc (.cells #[.int .i64 x] 2)).alloc (.cells #[.int .i64 c] 2)).alloc (.cells #[.int .i64 f] 2)).heap.size by simp; omega]
    exact heap_push (heap_alloc_new _ _)
  have k4 : X.cell? ⟨n0 + 4, 0, none⟩ = some (.int .i64 s) := by simp [World.cell?, K4]
  have TR : Five X (n0 + 5) 55 (.slice none 0 0) (.slice none 0 0) (.slice none 0 0) (.int .i64 0) (.int .i64 0) := by
    rw [hX, show n0 + 5 = (((((w.alloc (gb (.slice a1 n1 c1) (.slice a2 n2 c2) (.slice a3 n3 c3) G.next G.seed)).alloc (.cells #[.int .i64 x] 2)).alloc (.cells #[.int .i64 c] 2)).alloc (.cells #[.int .i64 f] 2)).alloc (.cells #[.int .i64 s] 2)).heap.size by simp; omega]
    exact heap_alloc_new _ _
  have hb : ∀ {W : World}, Below X.heap.size X W → ∀ (p : Addr), p.block < X.heap.size → W.cell? p = X.cell? p := fun h p hp => h.cell (p := p) hp
  have ED := edited_any (graphAt_below h (by rw [hn0]; exact B0)) hs 98 #[.pointer (some ⟨n0 + 4, 0, none⟩), .pointer (some ⟨n0 + 3, 0, none⟩), .pointer (some ⟨n0 + 2, 0, none⟩), .pointer (some ⟨n0 + 1, 0, none⟩)] egGMade (R := (made G x c f s).1) (b := (made G x c f s).2) (fun ok base P W hbs hW hH => cMade_any hH ok x c f s ((hb hW ⟨n0 + 1, 0, none⟩ (by show n0 + 1 < _; omega)).trans k1) ((hb hW ⟨n0 + 2, 0, none⟩ (by show n0 + 2 < _; omega)).trans k2) ((hb hW ⟨n0 + 3, 0, none⟩ (by show n0 + 3 < _; omega)).trans k3) ((hb hW ⟨n0 + 4, 0, none⟩ (by show n0 + 4 < _; omega)).trans k4) (by show n0 + 1 < base; omega))
  have eR : (if gOk G = true then (made G x c f s).1 else gr0) = (gMade G x c f s).1 ∧ (gOk G && (made G x c f s).2) = (gMade G x c f s).2 := by
    unfold gMade
    cases gOk G <;> simp
  rw [eR.1, eR.2] at ED
  obtain ⟨RG, hRG⟩ : ∃ RG, (gMade G x c f s).1 = RG := ⟨_, rfl⟩
  obtain ⟨RB, hRB⟩ : ∃ RB, (gMade G x c f s).2 = RB := ⟨_, rfl⟩
  rw [hRG, hRB] at ED
  rw [hRG, hRB]
  have HTR : Hid _ := TR
  have HB0 : Hid _ := B0
  have HX : Hid _ := hX
  have l1 : n0 + 6 ≤ X.heap.size := by omega
  clear eR hRG hRB TR B0 hb h hs k1 K1 k2 K2 k3 K3 k4 K4
  go_enter Try.func32, Try.ntmps32
  go_wp2_with fail
  rw [hX] at ED
  generalize ((((((w.alloc (gb (.slice a1 n1 c1) (.slice a2 n2 c2) (.slice a3 n3 c3) G.next G.seed)).alloc (.cells #[.int .i64 x] 2)).alloc (.cells #[.int .i64 c] 2)).alloc (.cells #[.int .i64 f] 2)).alloc (.cells #[.int .i64 s] 2)).alloc (gb (.slice none 0 0) (.slice none 0 0) (.slice none 0 0) 0 0)) = X2 at *
  subst hX
  refine ED.mono ?_
  rintro e w1 ⟨o', r', m', rs, rfl, O1, b1⟩
  obtain ⟨a1', n1', c1', a2', n2', c2', a3', n3', c3', e1, e2, e3⟩ := graphAt_slices (ownG_at O1)
  subst e1 e2 e3
  have TR1 := five_below HTR.out b1
  have B1 := HB0.out.trans (b1.mono (by omega))
  obtain ⟨v0, v1, v2, v3, v4, vf⟩ := five_cells TR1
  have g0 := vf 0
  have g1 := vf 1
  have g2 := vf 2
  have g3 := vf 3
  have g4 := vf 4
  have HOW : Hid _ := ownG_base (ownG_ch O1 (five_other (X := w1) (b := n0 + 5) (.slice a1' n1' c1') (.slice a2' n2' c2') (.slice a3' n3' c3') (.int .i64 RG.next) (.int .i64 RG.seed)) (fun x hx e => by have := (ownG_lt O1 x hx).1; rw [List.mem_singleton] at e; omega)) (show n0 ≤ X.heap.size by omega)
  have HTX : Hid _ := five_sets TR1 (.slice a1' n1' c1') (.slice a2' n2' c2') (.slice a3' n3' c3') (.int .i64 RG.next) (.int .i64 RG.seed)
  have HBX : Hid _ := five_belows B1 (show n0 ≤ n0 + 5 by omega) (.slice a1' n1' c1') (.slice a2' n2' c2') (.slice a3' n3' c3') (.int .i64 RG.next) (.int .i64 RG.seed)
  clear vf O1 B1 TR1 HTR HB0 b1 ED sX l1
  go_wp2
  exact bodyPost_ret (res_gr2 rfl rfl rfl HTX.out) rfl ⟨_, _, _, rs, rfl, HOW.out, HBX.out⟩
end Go.Proofs.Ytdogibjgogcdkab.gr
namespace Go.Proofs.Ytdogibjgogcdkab.gr
open Go.RowKit rows heads region
set_option maxRecDepth 100000

/-- The block of a value. -/
def bOf : Value → Nat
  | .slice (some a) _ _ => a.block
  | .pointer (some a) => a.block
  | _ => 0
def grp (k : Nat) : Nat := if k = 0 ∨ k = 3 then 1 else if k = 4 ∨ k = 7 then 2 else if k = 13 then 3 else 0
abbrev dstCg (k : Nat) : Nat := if k = 13 then 3 else 6 + k
def DCg (s : Nat) : Bool := s == 3 || (decide (6 ≤ s) && decide (s ≤ 18))
theorem dstC_inj (k : Nat) (hk : k < 14) : ∀ j, j < 14 → dstCg j = dstCg k → j = k := by
  intro j hj e
  unfold dstCg at e
  split at e <;> split at e <;> omega
/-- What is known of the slot of the operation k. -/
def FCg (n0 P : Nat) (r m : Value) (G : Gr) (k : Nat) (t : Value) (w : World) : Prop :=
  match k with
  | 0 => ∃ g, t = .slice (some ⟨g, 0, none⟩) 0 0 ∧ w.heap[g]? = some (.cells #[] 67 (0, 0))
  | 1 => t = .pointer (some ⟨P, 1, none⟩)
  | 2 => t = r
  | 3 => ∃ q c, n0 ≤ q ∧ t = .slice (some ⟨q, 0, none⟩) G.roots.length c ∧ OwnR w n0 t G.roots
  | 4 => ∃ g, t = .slice (some ⟨g, 0, none⟩) 0 0 ∧ w.heap[g]? = some (.cells #[] 67 (0, 0))
  | 5 => t = .pointer (some ⟨P, 2, none⟩)
  | 6 => t = m
  | 7 => ∃ q c, n0 ≤ q ∧ t = .slice (some ⟨q, 0, none⟩) G.mourned.length c ∧ OwnR w n0 t G.mourned
  | 8 => t = .pointer (some ⟨P, 3, none⟩)
  | 9 => t = .int .i64 G.next
  | 10 => t = .pointer (some ⟨P, 4, none⟩)
  | 11 => t = .int .i64 G.seed
  | 12 => True
  | 13 => ∃ B, n0 ≤ B ∧ t = .pointer (some ⟨B, 0, none⟩) ∧ Five w B 55 (.slice none 0 0) (.slice none 0 0) (.slice none 0 0) (.int .i64 0) (.int .i64 0)
  | _ => False
theorem FC_below {n0 P : Nat} {r m : Value} {G : Gr} {w w' : World} (hb : Below w.heap.size w w') (k : Nat) (t : Value) (h : FCg n0 P r m G k t w) : FCg n0 P r m G k t w' := by
  have B : ∀ {g : Nat} {o : Obj}, w.heap[g]? = some o → w'.heap[g]? = some o := fun ho => (hb.block _ (Array.getElem?_eq_some_iff.1 ho).1).trans ho
  match k, h with
  | 0, ⟨g, h1, h2⟩ => exact ⟨g, h1, B h2⟩
  | 1, h => exact h
  | 2, h => exact h
  | 3, ⟨q, c, h1, h2, h3⟩ => exact ⟨q, c, h1, h2, ownR_below h3 hb⟩
  | 4, ⟨g, h1, h2⟩ => exact ⟨g, h1, B h2⟩
  | 5, h => exact h
  | 6, h => exact h
  | 7, ⟨q, c, h1, h2, h3⟩ => exact ⟨q, c, h1, h2, ownR_below h3 hb⟩
  | 8, h => exact h
  | 9, h => exact h
  | 10, h => exact h
  | 11, h => exact h
  | 12, _ => exact trivial
  | 13, ⟨B, h1, h2, h3⟩ => exact ⟨B, h1, h2, five_below h3 hb⟩
  | _ + 14, h => exact h.elim

/-- The new graph lies there. -/
def DoneC (n0 : Nat) (G : Gr) (t : Value) (w : World) : Prop := ∃ B q1 c1 q2 c2, t = .pointer (some ⟨B, 0, none⟩) ∧ n0 ≤ B ∧ n0 ≤ q1 ∧ n0 ≤ q2 ∧ B ≠ q1 ∧ B ≠ q2 ∧ q1 ≠ q2 ∧ Five w B 55 (.slice none 0 0) (.slice (some ⟨q1, 0, none⟩) G.roots.length c1) (.slice (some ⟨q2, 0, none⟩) G.mourned.length c2) (.int .i64 G.next) (.int .i64 G.seed) ∧ OwnR w n0 (.slice (some ⟨q1, 0, none⟩) G.roots.length c1) G.roots ∧ OwnR w n0 (.slice (some ⟨q2, 0, none⟩) G.mourned.length c2) G.mourned

structure IC (w0 : World) (n0 P : Nat) (r m : Value) (G : Gr) (l : Array Bool) (u : Nat → Value) (w : World) : Prop where
  below : Below w0.heap.size w0 w
  fact : ∀ k, k < 14 → l.getD k false = true → FCg n0 P r m G k (u (dstCg k)) w
  agg : l.getD 12 false = true → u 18 = gv (.slice none 0 0) (u 9) (u 13) G.next G.seed
  lt : ∀ i, i < 14 → grp i ≠ 0 → l.getD i false = true → n0 ≤ bOf (u (dstCg i)) ∧ bOf (u (dstCg i)) < w.heap.size
  dj : ∀ i j, i < 14 → j < 14 → grp i ≠ 0 → grp j ≠ 0 → grp i ≠ grp j → l.getD i false = true → l.getD j false = true → bOf (u (dstCg i)) ≠ bOf (u (dstCg j))
  late : l.getD 14 false = false
  join : l.getD 12 false = true → l.getD 3 false = true ∧ l.getD 7 false = true

variable {w0 : World} {n0 P : Nat} {r m : Value} {G : Gr} {l : Array Bool} {u : Nat → Value} {w : World}

theorem IC.step (h : IC w0 n0 P r m G l u w) {k : Nat} (hk : k < 14) (hlk : l.getD k false = false) {v : Value} {w' : World} (hb : Below w.heap.size w w') (hv : FCg n0 P r m G k v w')
    (ha : k = 12 → v = gv (.slice none 0 0) (u 9) (u 13) G.next G.seed ∧ l.getD 3 false = true ∧ l.getD 7 false = true)
    (hg : grp k ≠ 0 → n0 ≤ bOf v ∧ bOf v < w'.heap.size ∧ (w.heap.size ≤ bOf v ∨ ∃ i, i < 14 ∧ grp i = grp k ∧ l.getD i false = true ∧ bOf v = bOf (u (dstCg i)))) :
    IC w0 n0 P r m G (l.setIfInBounds k true) (upd u (dstCg k) v) w' := by
  have ne : ∀ j, j < 14 → j ≠ k → upd u (dstCg k) v (dstCg j) = u (dstCg j) := fun j hj e => by
    have : ¬ dstCg j = dstCg k := fun e' => e (dstC_inj k hk j hj e')
    simp only [upd, this, if_false]
  have eq : upd u (dstCg k) v (dstCg k) = v := by simp [upd]
  have lo : ∀ j, j ≠ k → (l.setIfInBounds k true).getD j false = l.getD j false := fun j e => getD_other l (Ne.symm e)
  refine ⟨h.below.trans (hb.mono h.below.size), facts_put (dst := dstCg) (dstC_inj k hk) h.fact (fun j _ _ _ t => FC_below hb j t) hv, fun h12 => ?_, fun i hi hgi hli => ?_, fun i j hi hj hgi hgj hne hli hlj => ?_, ?_, fun h12 => ?_⟩
  · by_cases e : k = 12
    · subst e
      have := (ha rfl).1
      have e1 := eq
      have e2 := ne 3 (by omega) (by omega)
      have e3 := ne 7 (by omega) (by omega)
      show upd u (dstCg 12) v (dstCg 12) = gv _ (upd u (dstCg 12) v (dstCg 3)) (upd u (dstCg 12) v (dstCg 7)) _ _
      rw [e1, e2, e3]
      exact this
    · rw [lo 12 (Ne.symm e)] at h12
      obtain ⟨j3, j7⟩ := h.join h12
      have k3 : k ≠ 3 := fun e' => by rw [e', j3] at hlk; cases hlk
      have k7 : k ≠ 7 := fun e' => by rw [e', j7] at hlk; cases hlk
      have := h.agg h12
      show upd u (dstCg k) v (dstCg 12) = gv _ (upd u (dstCg k) v (dstCg 3)) (upd u (dstCg k) v (dstCg 7)) _ _
      rw [ne 12 (by omega) (Ne.symm e), ne 3 (by omega) (Ne.symm k3), ne 7 (by omega) (Ne.symm k7)]
      exact this
  · by_cases e : i = k
    · subst e
      rw [eq]
      exact ⟨(hg hgi).1, (hg hgi).2.1⟩
    · rw [lo i e] at hli
      rw [ne i hi e]
      have := h.lt i hi hgi hli
      exact ⟨this.1, Nat.lt_of_lt_of_le this.2 hb.size⟩
  · by_cases e : i = k
    · subst e
      have e' : j ≠ i := fun e' => hne (by rw [e'])
      rw [lo j e'] at hlj
      rw [eq, ne j hj e']
      rcases (hg hgi).2.2 with h1 | ⟨i', hi', hgi', hli', h1⟩
      · have := (h.lt j hj hgj hlj).2
        omega
      · rw [h1]
        exact h.dj i' j hi' hj (by rw [hgi']; exact hgi) hgj (by rw [hgi']; exact hne) hli' hlj
    · rw [lo i e] at hli
      rw [ne i hi e]
      by_cases e' : j = k
      · subst e'
        rw [eq]
        rcases (hg hgj).2.2 with h1 | ⟨i', hi', hgi', hli', h1⟩
        · have := (h.lt i hi hgi hli).2
          omega
        · rw [h1]
          exact h.dj i i' hi hi' hgi (by rw [hgi']; exact hgj) (by rw [hgi']; exact hne) hli hli'
      · rw [lo j e'] at hlj
        rw [ne j hj e']
        exact h.dj i j hi hj hgi hgj hne hli hlj
  · rw [lo 14 (by omega)]
    exact h.late
  · by_cases e : k = 12
    · obtain ⟨_, j3, j7⟩ := ha e
      rw [lo 3 (by omega), lo 7 (by omega)]
      exact ⟨j3, j7⟩
    · rw [lo 12 (Ne.symm e)] at h12
      obtain ⟨j3, j7⟩ := h.join h12
      have k3 : k ≠ 3 := fun e' => by rw [e', j3] at hlk; cases hlk
      have k7 : k ≠ 7 := fun e' => by rw [e', j7] at hlk; cases hlk
      rw [lo 3 (Ne.symm k3), lo 7 (Ne.symm k7)]
      exact ⟨j3, j7⟩
/-- An operation that makes no list. -/
theorem IC.plain (h : IC w0 n0 P r m G l u w) {k : Nat} (hk : k < 14) (hlk : l.getD k false = false) (h12 : k ≠ 12) (hg0 : grp k = 0) {v : Value} (hv : FCg n0 P r m G k v w) :
    IC w0 n0 P r m G (l.setIfInBounds k true) (upd u (dstCg k) v) w := h.step hk hlk (Below.refl _ _) hv (fun e => absurd e h12) (fun e => absurd hg0 e)

theorem run_nil0 (w : World) : (Instr.buildSlice 53 0 #[]).run Try.prog w = .ok (.slice (some ⟨w.heap.size, 0, none⟩) 0 0) (w.alloc (.cells #[] 67)) := by
  go_simp
theorem run_fa (b k : Nat) (hk : k < 5) (w : World) : (Instr.fieldAt 55 (.pointer (some ⟨b, 0, none⟩)) k).run Try.prog w = .ok (.pointer (some ⟨b, k, none⟩)) w := by
  rcases (show k = 0 ∨ k = 1 ∨ k = 2 ∨ k = 3 ∨ k = 4 by omega) with rfl | rfl | rfl | rfl | rfl <;> go_simp
end Go.Proofs.Ytdogibjgogcdkab.gr
namespace Go.Proofs.Ytdogibjgogcdkab.gr
open Go.RowKit rows heads region
set_option maxRecDepth 100000

theorem run_ldS3 (b k : Nat) (w : World) {a : Option Addr} {n c : Nat} (h : w.cell? ⟨b, k, none⟩ = some (.slice a n c)) : (Instr.loadAt 53 (.pointer (some ⟨b, k, none⟩))).run Try.prog w = .ok (.slice a n c) w := by
  go_simp
theorem run_ldI3 (b k : Nat) (w : World) {x : Int} (h : w.cell? ⟨b, k, none⟩ = some (.int .i64 x)) : (Instr.loadAt 2 (.pointer (some ⟨b, k, none⟩))).run Try.prog w = .ok (.int .i64 x) w := by
  go_simp
theorem run_mkG (a1 a2 : Option Addr) (n1 c1 n2 c2 : Nat) (x y : Int) (w : World) : (Instr.build 55 #[(1, .slice a1 n1 c1), (2, .slice a2 n2 c2), (3, .int .i64 x), (4, .int .i64 y)]).run Try.prog w = .ok (gv (.slice none 0 0) (.slice a1 n1 c1) (.slice a2 n2 c2) x y) w := by
  go_simp
theorem run_alG (w : World) : (Instr.alloc 55 true (.tuple #[])).run Try.prog w = .ok (.pointer (some ⟨w.heap.size, 0, none⟩)) (w.alloc (gb (.slice none 0 0) (.slice none 0 0) (.slice none 0 0) 0 0)) := by
  go_simp
theorem run_stG {w : World} {b : Nat} {c0 c1 c2 c3 c4 : Value} (h : Five w b 55 c0 c1 c2 c3 c4) (a1 a2 : Option Addr) (n1 k1 n2 k2 : Nat) (x y : Int) : (Instr.storeAt 55 (.pointer (some ⟨b, 0, none⟩)) (gv (.slice none 0 0) (.slice a1 n1 k1) (.slice a2 n2 k2) x y)).run Try.prog w = .ok () (((((w.setCell ⟨b, 0, none⟩ (.slice none 0 0)).setCell ⟨b, 1, none⟩ (.slice a1 n1 k1)).setCell ⟨b, 2, none⟩ (.slice a2 n2 k2)).setCell ⟨b, 3, none⟩ (.int .i64 x)).setCell ⟨b, 4, none⟩ (.int .i64 y)) := by
  obtain ⟨z0, z1, z2, z3, z4, zf⟩ := five_cells h
  have f0 := zf 0
  have f1 := zf 1
  have f2 := zf 2
  have f3 := zf 3
  have f4 := zf 4
  clear h zf
  go_simp

theorem wp_skip {P : Program} {o : Oper} {a : Act} {w w' : World} {K : Act → World → Prop} {Q : Exit → Act → World → Prop} (h : (execOp a.eval o).run P w = .ok .skip w') (hk : K (a.put o.dst undef) w') : o.wp P a w K Q := by
  unfold Oper.wp
  rw [h]
  exact hk

set_option maxHeartbeats 4000000 in
theorem regC {id : Nat} {ops : Array Oper} {a0 : Act} {Q : Exit → Act → World → Prop} {w : World} {n0 P : Nat} {o : Value} {a2 a3 : Option Addr} {n2 c2 n3 c3 : Nat} {G : Gr} (hg : ∀ o ∈ ops, o.guard = none) (hacyc : ∀ (k : Nat) (o : Oper), ops[k]? = some o → ∀ e ∈ o.after, e.on < k) (hn : ops.size = 15)
    (h0 : Has ops 0 (some 6) (.buildSlice 53 0 #[]) [])
    (h1 : Has ops 1 (some 7) (.fieldAddr 55 (.tmp 1) 1) [])
    (h2 : Has ops 2 (some 8) (.load 53 (.tmp 7)) [1])
    (h3 : Has ops 3 (some 9) (.call { callee := .builtin .append, args := #[.tmp 6, .tmp 8], argTypes := #[53, 53] }) [0, 2])
    (h4 : Has ops 4 (some 10) (.buildSlice 53 0 #[]) [])
    (h5 : Has ops 5 (some 11) (.fieldAddr 55 (.tmp 1) 2) [])
    (h6 : Has ops 6 (some 12) (.load 53 (.tmp 11)) [5])
    (h7 : Has ops 7 (some 13) (.call { callee := .builtin .append, args := #[.tmp 10, .tmp 12], argTypes := #[53, 53] }) [4, 6])
    (h8 : Has ops 8 (some 14) (.fieldAddr 55 (.tmp 1) 3) [])
    (h9 : Has ops 9 (some 15) (.load 2 (.tmp 14)) [8])
    (h10 : Has ops 10 (some 16) (.fieldAddr 55 (.tmp 1) 4) [])
    (h11 : Has ops 11 (some 17) (.load 2 (.tmp 16)) [10])
    (h12 : Has ops 12 (some 18) (.build 55 #[(1, .tmp 9), (2, .tmp 13), (3, .tmp 15), (4, .tmp 17)]) [3, 7, 9, 11])
    (h13 : Has ops 13 (some 3) (.alloc 55) [])
    (h14 : Has ops 14 none (.store 55 (.tmp 3) (.tmp 18)) [0, 1, 2, 3, 4, 5, 6, 7, 8, 9, 10, 11, 12, 13])
    (sz : 18 < a0.tmps.size) (e1 : a0.tmps.getD 1 undef = .pointer (some ⟨P, 0, none⟩))
    (TP : Five w P 55 o (.slice a2 n2 c2) (.slice a3 n3 c3) (.int .i64 G.next) (.int .i64 G.seed)) (hR : RefsAt w (.slice a2 n2 c2) G.roots) (hM : RefsAt w (.slice a3 n3 c3) G.mourned) (l2 : n2 ≤ 1048576) (l3 : n3 ≤ 1048576) (hn0 : n0 = w.heap.size)
    (fin : ∀ u w', DoneC n0 G (u 3) w' → Below w.heap.size w w' → Q .normal (ovr DCg a0 u) w') :
    (Code.region id ops true).wp Try.prog Q a0 w := by
  have hlR := (refs_len hR).1
  have hlM := (refs_len hM).1
  refine wp_region_facts (by kernel_rfl) DCg hg hacyc (fun l u w' => IC w.drew n0 P (.slice a2 n2 c2) (.slice a3 n3 c3) G l u w' ∨ ((∀ k, k < 15 → l.getD k false = true) ∧ DoneC n0 G (u 3) w' ∧ Below w.heap.size w w')) (.inl ?_) ?_ ?_
  · refine ⟨Below.refl _ _, fun k hk h => ?_, fun h => ?_, fun i hi _ h => ?_, fun i j hi _ _ _ _ h => ?_, ?_, fun h => ?_⟩
    · rw [hn] at h; simp [Array.getD, show k < 15 by omega] at h
    · rw [hn] at h; simp [Array.getD] at h
    · rw [hn] at h; simp [Array.getD, show i < 15 by omega] at h
    · rw [hn] at h; simp [Array.getD, show i < 15 by omega] at h
    · rw [hn]; decide
    · rw [hn] at h; simp [Array.getD] at h
  · rintro l u w' (I | ⟨_, h, hb⟩) hall
    · have := hall 14 (by omega)
      rw [I.late] at this
      cases this
    · exact fin u w' h hb
  · rintro l u X k oo (I | ⟨hall, _, _⟩) hl hlk ho hd
    case inr =>
      have hk : k < 15 := by rw [← hn]; exact (Array.getElem?_eq_some_iff.1 ho).1
      rw [hall k hk] at hlk
      cases hlk
    rw [hn] at hl
    have hk : k < 15 := by rw [← hn]; exact (Array.getElem?_eq_some_iff.1 ho).1
    have BX : Below w.heap.size w X := ⟨I.below.os, I.below.tape, I.below.output, I.below.size, I.below.block⟩
    have sX : n0 ≤ X.heap.size := Nat.le_trans (Nat.le_of_eq hn0) BX.size
    have TX := five_below TP BX
    obtain ⟨_, t1, t2, t3, t4, _⟩ := five_cells TX
    have x1 := (eval_out (D := DCg) (a0 := a0) (u := u) (s := 1) rfl (by omega)).trans e1
    have ev : ∀ s, DCg s = true → s < 19 → (ovr DCg a0 u).eval (.tmp s) = u s := fun s h1 h2 => eval_in h1 (by omega)
    rcases (show k = 0 ∨ k = 1 ∨ k = 2 ∨ k = 3 ∨ k = 4 ∨ k = 5 ∨ k = 6 ∨ k = 7 ∨ k = 8 ∨ k = 9 ∨ k = 10 ∨ k = 11 ∨ k = 12 ∨ k = 13 ∨ k = 14 by omega) with rfl | rfl | rfl | rfl | rfl | rfl | rfl | rfl | rfl | rfl | rfl | rfl | rfl | rfl | rfl
    · obtain ⟨d, op, dep⟩ := has_at h0 ho hd
      exact wp_value (by simp [execOp, op, run_nil0, Result.andThen]) ⟨_, put_in d rfl u _, .inl (I.step (k := 0) (by omega) hlk ((Below.refl _ X).alloc (Nat.le_refl _) _) ⟨X.heap.size, rfl, heap_alloc_new X _⟩ (fun e => by cases e) (fun _ => ⟨sX, by simp [bOf], .inl (Nat.le_refl _)⟩))⟩
    · obtain ⟨d, op, dep⟩ := has_at h1 ho hd
      exact wp_value (w' := X) (by simp [execOp, op, x1, run_fa P 1 (by omega), Result.andThen]) ⟨_, put_in d rfl u _, .inl (I.plain (k := 1) (by omega) hlk (by omega) rfl rfl)⟩
    · obtain ⟨d, op, dep⟩ := has_at h2 ho hd
      have x := (ev 7 rfl (by omega)).trans (I.fact 1 (by omega) (dep 1 (by simp)))
      exact wp_value (w' := X) (by simp [execOp, op, x, run_ldS3 P 1 X t1, Result.andThen]) ⟨_, put_in d rfl u _, .inl (I.plain (k := 2) (by omega) hlk (by omega) rfl rfl)⟩
    · obtain ⟨d, op, dep⟩ := has_at h3 ho hd
      obtain ⟨g, g1, g2⟩ := I.fact 0 (by omega) (dep 0 (by simp))
      have x := (ev 6 rfl (by omega)).trans g1
      have y := (ev 8 rfl (by omega)).trans (I.fact 2 (by omega) (dep 2 (by simp)))
      obtain ⟨q, c, w', hr, hq, hO, hb⟩ := run_app0 (refsAt_below hR BX) l2 g2 oo.type
      have gl := I.lt 0 (by omega) (by decide) (dep 0 (by simp))
      have eg : bOf (u (dstCg 0)) = g := by show bOf (u 6) = g; rw [show u 6 = _ from g1]; rfl
      rw [eg] at gl
      have hq0 : n0 ≤ q := by rcases hq with rfl | hq <;> omega
      have hqs : q < w'.heap.size := by
        have := hO 0 (Nat.zero_le _)
        exact (World.ownsRow.lt this q rfl).2
      refine wp_value (v := .slice (some ⟨q, 0, none⟩) n2 c) (w' := w') (by simp [execOp, op, resolve, invoke, builtin, x, y, hr, Result.andThen]) ⟨_, put_in d rfl u _, .inl (I.step (k := 3) (by omega) hlk hb ⟨q, c, hq0, by rw [hlR], hO n0 hq0⟩ (fun e => by cases e) (fun _ => ⟨hq0, hqs, ?_⟩))⟩
      rcases hq with rfl | hq
      · exact .inr ⟨0, by omega, rfl, dep 0 (by simp), eg.symm⟩
      · exact .inl hq
    · obtain ⟨d, op, dep⟩ := has_at h4 ho hd
      exact wp_value (by simp [execOp, op, run_nil0, Result.andThen]) ⟨_, put_in d rfl u _, .inl (I.step (k := 4) (by omega) hlk ((Below.refl _ X).alloc (Nat.le_refl _) _) ⟨X.heap.size, rfl, heap_alloc_new X _⟩ (fun e => by cases e) (fun _ => ⟨sX, by simp [bOf], .inl (Nat.le_refl _)⟩))⟩
    · obtain ⟨d, op, dep⟩ := has_at h5 ho hd
      exact wp_value (w' := X) (by simp [execOp, op, x1, run_fa P 2 (by omega), Result.andThen]) ⟨_, put_in d rfl u _, .inl (I.plain (k := 5) (by omega) hlk (by omega) rfl rfl)⟩
    · obtain ⟨d, op, dep⟩ := has_at h6 ho hd
      have x := (ev 11 rfl (by omega)).trans (I.fact 5 (by omega) (dep 5 (by simp)))
      exact wp_value (w' := X) (by simp [execOp, op, x, run_ldS3 P 2 X t2, Result.andThen]) ⟨_, put_in d rfl u _, .inl (I.plain (k := 6) (by omega) hlk (by omega) rfl rfl)⟩
    · obtain ⟨d, op, dep⟩ := has_at h7 ho hd
      obtain ⟨g, g1, g2⟩ := I.fact 4 (by omega) (dep 4 (by simp))
      have x := (ev 10 rfl (by omega)).trans g1
      have y := (ev 12 rfl (by omega)).trans (I.fact 6 (by omega) (dep 6 (by simp)))
      obtain ⟨q, c, w', hr, hq, hO, hb⟩ := run_app0 (refsAt_below hM BX) l3 g2 oo.type
      have gl := I.lt 4 (by omega) (by decide) (dep 4 (by simp))
      have eg : bOf (u (dstCg 4)) = g := by show bOf (u 10) = g; rw [show u 10 = _ from g1]; rfl
      rw [eg] at gl
      have hq0 : n0 ≤ q := by rcases hq with rfl | hq <;> omega
      have hqs : q < w'.heap.size := by
        have := hO 0 (Nat.zero_le _)
        exact (World.ownsRow.lt this q rfl).2
      refine wp_value (v := .slice (some ⟨q, 0, none⟩) n3 c) (w' := w') (by simp [execOp, op, resolve, invoke, builtin, x, y, hr, Result.andThen]) ⟨_, put_in d rfl u _, .inl (I.step (k := 7) (by omega) hlk hb ⟨q, c, hq0, by rw [hlM], hO n0 hq0⟩ (fun e => by cases e) (fun _ => ⟨hq0, hqs, ?_⟩))⟩
      rcases hq with rfl | hq
      · exact .inr ⟨4, by omega, rfl, dep 4 (by simp), eg.symm⟩
      · exact .inl hq
    · obtain ⟨d, op, dep⟩ := has_at h8 ho hd
      exact wp_value (w' := X) (by simp [execOp, op, x1, run_fa P 3 (by omega), Result.andThen]) ⟨_, put_in d rfl u _, .inl (I.plain (k := 8) (by omega) hlk (by omega) rfl rfl)⟩
    · obtain ⟨d, op, dep⟩ := has_at h9 ho hd
      have x := (ev 14 rfl (by omega)).trans (I.fact 8 (by omega) (dep 8 (by simp)))
      exact wp_value (w' := X) (by simp [execOp, op, x, run_ldI3 P 3 X t3, Result.andThen]) ⟨_, put_in d rfl u _, .inl (I.plain (k := 9) (by omega) hlk (by omega) rfl rfl)⟩
    · obtain ⟨d, op, dep⟩ := has_at h10 ho hd
      exact wp_value (w' := X) (by simp [execOp, op, x1, run_fa P 4 (by omega), Result.andThen]) ⟨_, put_in d rfl u _, .inl (I.plain (k := 10) (by omega) hlk (by omega) rfl rfl)⟩
    · obtain ⟨d, op, dep⟩ := has_at h11 ho hd
      have x := (ev 16 rfl (by omega)).trans (I.fact 10 (by omega) (dep 10 (by simp)))
      exact wp_value (w' := X) (by simp [execOp, op, x, run_ldI3 P 4 X t4, Result.andThen]) ⟨_, put_in d rfl u _, .inl (I.plain (k := 11) (by omega) hlk (by omega) rfl rfl)⟩
    · obtain ⟨d, op, dep⟩ := has_at h12 ho hd
      obtain ⟨q, c, _, y1, _⟩ := I.fact 3 (by omega) (dep 3 (by simp))
      obtain ⟨q', c', _, y2, _⟩ := I.fact 7 (by omega) (dep 7 (by simp))
      have z1 := (ev 9 rfl (by omega)).trans y1
      have z2 := (ev 13 rfl (by omega)).trans y2
      have z3 := (ev 15 rfl (by omega)).trans (I.fact 9 (by omega) (dep 9 (by simp)))
      have z4 := (ev 17 rfl (by omega)).trans (I.fact 11 (by omega) (dep 11 (by simp)))
      have hr := run_mkG (some ⟨q, 0, none⟩) (some ⟨q', 0, none⟩) G.roots.length c G.mourned.length c' G.next G.seed X
      refine wp_value (w' := X) (v := gv (.slice none 0 0) (.slice (some ⟨q, 0, none⟩) G.roots.length c) (.slice (some ⟨q', 0, none⟩) G.mourned.length c') G.next G.seed) (by simp [execOp, op, z1, z2, z3, z4, hr, Result.andThen]) ⟨_, put_in d rfl u _, .inl (I.step (k := 12) (by omega) hlk (Below.refl _ _) trivial (fun _ => ⟨?_, dep 3 (by simp), dep 7 (by simp)⟩) (fun e => absurd rfl e))⟩
      rw [show u 9 = _ from y1, show u 13 = _ from y2]
    · obtain ⟨d, op, dep⟩ := has_at h13 ho hd
      exact wp_value (by simp [execOp, op, run_alG, Result.andThen]) ⟨_, put_in d rfl u _, .inl (I.step (k := 13) (by omega) hlk ((Below.refl _ X).alloc (Nat.le_refl _) _) ⟨X.heap.size, sX, rfl, five_new X _ _ _ _ _ _⟩ (fun e => by cases e) (fun _ => ⟨sX, by simp [bOf], .inl (Nat.le_refl _)⟩))⟩
    · obtain ⟨d, op, dep⟩ := has_at h14 ho hd
      have al : ∀ j, j < 14 → l.getD j false = true := fun j hj => dep j (by
        rcases (show j = 0 ∨ j = 1 ∨ j = 2 ∨ j = 3 ∨ j = 4 ∨ j = 5 ∨ j = 6 ∨ j = 7 ∨ j = 8 ∨ j = 9 ∨ j = 10 ∨ j = 11 ∨ j = 12 ∨ j = 13 by omega) with rfl | rfl | rfl | rfl | rfl | rfl | rfl | rfl | rfl | rfl | rfl | rfl | rfl | rfl <;> decide)
      obtain ⟨q, c, hq, y1, O1⟩ := I.fact 3 (by omega) (al 3 (by omega))
      obtain ⟨q', c', hq', y2, O2⟩ := I.fact 7 (by omega) (al 7 (by omega))
      obtain ⟨B, hB, y3, TB⟩ := I.fact 13 (by omega) (al 13 (by omega))
      have ag := I.agg (al 12 (by omega))
      have d37 := I.dj 3 7 (by omega) (by omega) (by decide) (by decide) (by decide) (al 3 (by omega)) (al 7 (by omega))
      have d3B := I.dj 13 3 (by omega) (by omega) (by decide) (by decide) (by decide) (al 13 (by omega)) (al 3 (by omega))
      have d7B := I.dj 13 7 (by omega) (by omega) (by decide) (by decide) (by decide) (al 13 (by omega)) (al 7 (by omega))
      have y1' : u 9 = .slice (some ⟨q, 0, none⟩) G.roots.length c := y1
      have y2' : u 13 = .slice (some ⟨q', 0, none⟩) G.mourned.length c' := y2
      have y3' : u 3 = .pointer (some ⟨B, 0, none⟩) := y3
      have b1 : bOf (u (dstCg 3)) = q := by show bOf (u 9) = q; rw [y1']; rfl
      have b2 : bOf (u (dstCg 7)) = q' := by show bOf (u 13) = q'; rw [y2']; rfl
      have b3 : bOf (u (dstCg 13)) = B := by show bOf (u 3) = B; rw [y3']; rfl
      rw [b1, b2] at d37
      rw [b3, b1] at d3B
      rw [b3, b2] at d7B
      rw [y1', y2'] at ag
      have OR : OwnR X n0 (.slice (some ⟨q, 0, none⟩) G.roots.length c) G.roots := by rw [← y1']; exact O1
      have OM : OwnR X n0 (.slice (some ⟨q', 0, none⟩) G.mourned.length c') G.mourned := by rw [← y2']; exact O2
      have z1 := (ev 3 rfl (by omega)).trans y3'
      have z2 := (ev 18 rfl (by omega)).trans ag
      have hr := run_stG TB (some ⟨q, 0, none⟩) (some ⟨q', 0, none⟩) G.roots.length c G.mourned.length c' G.next G.seed
      have CH := five_other (X := X) (b := B) (.slice none 0 0) (.slice (some ⟨q, 0, none⟩) G.roots.length c) (.slice (some ⟨q', 0, none⟩) G.mourned.length c') (.int .i64 G.next) (.int .i64 G.seed)
      refine wp_skip (by simp [execOp, op, z1, z2, hr, Result.andThen]) ⟨u, put_no d u _, .inr ⟨fun j hj => ?_, ⟨B, q, c, q', c', y3', hB, hq, hq', d3B, d7B, d37, five_sets TB _ _ _ _ _, row_ch OR CH (fun k hk e => ?_), row_ch OM CH (fun k hk e => ?_)⟩, five_belows BX (by omega) _ _ _ _ _⟩⟩
      · by_cases e : j = 14
        · subst e; exact listed_ne (by omega)
        · rw [getD_other l (Ne.symm e)]; exact al j (by omega)
      · simp only [blk, Value.ownBlock, Option.toList, List.mem_singleton] at hk e
        exact d3B (e.symm.trans hk)
      · simp only [blk, Value.ownBlock, Option.toList, List.mem_singleton] at hk e
        exact d7B (e.symm.trans hk)
end Go.Proofs.Ytdogibjgogcdkab.gr
namespace Go.Proofs.Ytdogibjgogcdkab.gr
open Go.RowKit rows heads region
set_option maxRecDepth 100000

theorem wpList_app0 {w : World} {ops : Array Oper} {rest : List Oper} {o : Oper} {act : Act} {Q : Exit → Act → World → Prop} {g : Nat} {a : Option Addr} {n cap : Nat} {es : List Rf}
    (h : RefsAt w (.slice a n cap) es) (hl : n ≤ 1048576) (hg : w.heap[g]? = some (.cells #[] 67 (0, 0))) (hgd : o.guard = none) (s x : Operand) (ho : o.op = .call { callee := .builtin .append, args := #[s, x], argTypes := #[53, 53] })
    (hs : act.eval s = .slice (some ⟨g, 0, none⟩) 0 0) (hx : act.eval x = .slice a n cap)
    (k : ∀ q c w', (q = g ∨ w.heap.size ≤ q) → (∀ base, base ≤ q → OwnR w' base (.slice (some ⟨q, 0, none⟩) n c) es) → Below w.heap.size w w' → wpList Try.prog ops Q rest (act.put o.dst (.slice (some ⟨q, 0, none⟩) n c)) w') :
    wpList Try.prog ops Q (o :: rest) act w := by
  refine wpList_plain hgd fun K hK => ?_
  obtain ⟨q, c, w', hr, h1, h2, h3⟩ := run_app0 h hl hg o.type
  unfold Oper.wp execOp
  simp only [ho, resolve, invoke, builtin, Sem.run_bind, Sem.run_pure, Result.andThen_ok, List.map_toArray, List.map_cons, List.map_nil, hs, hx, hr]
  exact hK _ _ (k q c w' h1 h2 h3)

/-- The graph with its first k objects. -/
def upto (G : Gr) (k : Nat) : Gr := { G with objs := G.objs.take k }
theorem upto_all (G : Gr) : upto G G.objs.length = G := by unfold upto; rw [List.take_length]
theorem done_held {n0 : Nat} {G : Gr} {w : World} {B q1 c1 q2 c2 : Nat} (h1 : n0 ≤ B) (h4 : B ≠ q1) (h5 : B ≠ q2) (h6 : q1 ≠ q2)
    (T : Five w B 55 (.slice none 0 0) (.slice (some ⟨q1, 0, none⟩) G.roots.length c1) (.slice (some ⟨q2, 0, none⟩) G.mourned.length c2) (.int .i64 G.next) (.int .i64 G.seed)) (O1 : OwnR w n0 (.slice (some ⟨q1, 0, none⟩) G.roots.length c1) G.roots) (O2 : OwnR w n0 (.slice (some ⟨q2, 0, none⟩) G.mourned.length c2) G.mourned) : Held w n0 B (upto G 0) := by
  refine ⟨_, _, _, [], T, ⟨by simp [upto], ownO_nil w n0, O1, O2, ?_⟩, ?_, h1⟩
  · have e : blk (.slice none 0 0) = [] := rfl
    simp [gblk, blk_some, blks, e, h6]
  · have e : blk (.slice none 0 0) = [] := rfl
    simp [gblk, blk_some, blks, e, h4, h5]
theorem ownRow_form {w : World} {base n : Nat} {v : Value} {xs : List Value} (h : w.ownsRow base 72 5 v n xs) (hn : 0 < n) : ∃ g c, v = .slice (some ⟨g, 0, none⟩) n c := by
  obtain ⟨_, ⟨_, h0⟩ | ⟨g, cap, cur, h1, _⟩⟩ := h
  · omega
  · exact ⟨g, cap, h1⟩

set_option maxHeartbeats 8000000 in
theorem l6Copy_any {w : World} {o r m : Value} {ms : List MO} {G : Gr} (h : GraphAt w o r m ms G) (hs : gSize ms G ≤ 1048576) :
    Calls Try.prog 105 #[gv o r m G.next G.seed] w fun e w' => ∃ o' r' m' ns, e = .returned (gv o' r' m' G.next G.seed) ∧ OwnG w' w.heap.size o' r' m' ns G ∧ Below w.heap.size w w' := by
  have hss := gSize_slots hs
  have hsz : ms.length ≤ 1048576 ∧ G.roots.length ≤ 1048576 ∧ G.mourned.length ≤ 1048576 := by unfold gSize at hs; omega
  obtain ⟨a1, n1, c1, a2, n2, c2, a3, n3, c3, e1, e2, e3⟩ := graphAt_slices h
  subst e1 e2 e3
  have hlen : ms.length = G.objs.length := by rw [← h.1]; simp
  have en2 : G.roots.length = n2 ∧ G.mourned.length = n3 := ⟨(refs_len h.2.2.1).1, (refs_len h.2.2.2).1⟩
  have en1 : n1 = ms.length := by obtain ⟨_, ⟨⟨a, c, e, _⟩, _⟩, _⟩ := h; injection e
  subst en1
  have HSS : Hid _ := hss
  have HLEN : Hid _ := hlen
  have HEN : Hid _ := en2
  have HSZ : Hid _ := hsz
  clear hss hlen en2 hs
  generalize hn0 : w.heap.size = n0 at *
  obtain ⟨X, hX⟩ : ∃ X, X = ((w.alloc (gb (.slice a1 ms.length c1) (.slice a2 n2 c2) (.slice a3 n3 c3) G.next G.seed)).alloc (gb (.slice none 0 0) (.slice none 0 0) (.slice none 0 0) 0 0)) := ⟨_, rfl⟩
  have B0 : Below n0 w X := by rw [hX]; exact ((Below.refl _ w).alloc (by omega) _).alloc (by simp; omega) _
  have TP : Five X n0 55 (.slice a1 ms.length c1) (.slice a2 n2 c2) (.slice a3 n3 c3) (.int .i64 G.next) (.int .i64 G.seed) := by
    rw [hX, ← hn0]
    exact five_below (five_new w _ _ _ _ _ _) ((Below.refl _ _).alloc (Nat.le_refl _) _)
  have TR : Five X (n0 + 1) 55 (.slice none 0 0) (.slice none 0 0) (.slice none 0 0) (.int .i64 0) (.int .i64 0) := by
    have := five_new (w.alloc (gb (.slice a1 ms.length c1) (.slice a2 n2 c2) (.slice a3 n3 c3) G.next G.seed)) 55 (.slice none 0 0) (.slice none 0 0) (.slice none 0 0) (.int .i64 0) (.int .i64 0)
    rw [hX, ← hn0]
    simpa using this
  have sX : X.heap.size = n0 + 2 := by rw [hX]; simp; omega
  have GX := graphAt_below h (by rw [hn0]; exact B0)
  have HTP : Hid _ := TP
  have HTR : Hid _ := TR
  have HB0 : Hid _ := B0
  have HGX : Hid _ := GX
  clear TP TR B0 GX h
  go_enter Try.func105, Try.ntmps105
  go_wp2_with fail
  rw [← hX]
  clear hX
  go_cut [3] from 6 to 18 (fun v wr => ∃ B : Nat, v = .pointer (some ⟨B, 0, none⟩) ∧ Hid (Held wr (n0 + 2) B (upto G 0)) ∧ Hid (Below (n0 + 2) X wr))
  case first =>
    refine regC (n0 := n0 + 2) (G := G) (by simp) ?_ rfl ⟨_, rfl, rfl, rfl, by simp⟩ ⟨_, rfl, rfl, rfl, by simp⟩ ⟨_, rfl, rfl, rfl, by simp [Region.binds]⟩ ⟨_, rfl, rfl, rfl, by simp [Region.binds]⟩ ⟨_, rfl, rfl, rfl, by simp⟩ ⟨_, rfl, rfl, rfl, by simp⟩ ⟨_, rfl, rfl, rfl, by simp [Region.binds]⟩ ⟨_, rfl, rfl, rfl, by simp [Region.binds]⟩ ⟨_, rfl, rfl, rfl, by simp⟩ ⟨_, rfl, rfl, rfl, by simp [Region.binds]⟩ ⟨_, rfl, rfl, rfl, by simp⟩ ⟨_, rfl, rfl, rfl, by simp [Region.binds]⟩ ⟨_, rfl, rfl, rfl, by simp [Region.binds]⟩ ⟨_, rfl, rfl, rfl, by simp⟩ ⟨_, rfl, rfl, rfl, by simp [Region.binds]⟩ (by simp) rfl HTP.out HGX.out.2.2.1 HGX.out.2.2.2 (by have := HSZ.out; have := HEN.out; omega) (by have := HSZ.out; have := HEN.out; omega) sX.symm ?_
    · intro k o ho e he
      have hk : k < 15 := (Array.getElem?_eq_some_iff.1 ho).1
      rcases (show k = 0 ∨ k = 1 ∨ k = 2 ∨ k = 3 ∨ k = 4 ∨ k = 5 ∨ k = 6 ∨ k = 7 ∨ k = 8 ∨ k = 9 ∨ k = 10 ∨ k = 11 ∨ k = 12 ∨ k = 13 ∨ k = 14 by omega) with rfl | rfl | rfl | rfl | rfl | rfl | rfl | rfl | rfl | rfl | rfl | rfl | rfl | rfl | rfl
      all_goals
        injection ho with ho
        subst ho
        simp at he
        try omega
      all_goals
        first
          | (subst he; decide)
          | (rcases he with rfl | rfl <;> decide)
          | (rcases he with rfl | rfl | rfl <;> decide)
          | (rcases he with rfl | rfl | rfl | rfl <;> decide)
          | (rcases he with rfl | rfl | rfl | rfl | rfl | rfl | rfl | rfl | rfl | rfl | rfl | rfl | rfl | rfl | rfl | rfl <;> decide)
          | (rcases he with rfl | rfl | rfl | rfl | rfl | rfl | rfl | rfl | rfl | rfl | rfl | rfl | rfl | rfl | rfl | rfl | rfl <;> decide)
    · rintro u w' ⟨B, q1, d1, q2, d2, y, hB, hB1, hB2, h1, h2, h3, T, O1, O2⟩ hb
      rename_i J K' HJ HK
      clear hB1 hB2
      exact HK _ _ (Met.intro (HJ _ _ ⟨u 3, u 6, u 7, u 8, u 9, u 10, u 11, u 12, u 13, u 14, u 15, u 16, u 17, u 18, ⟨B, y, done_held hB h1 h2 h3 T O1 O2, by rw [← sX]; exact hb⟩, rfl⟩))
  obtain ⟨B, rfl, HH, HB⟩ := hcut
  have hBB : n0 + 2 ≤ B := by obtain ⟨_, _, _, _, _, _, _, h⟩ := HH.out; exact h
  obtain ⟨i0, hi, hz0, hz1, hz2⟩ := info_parts infoO
  have HI : Hid _ := hi
  have HZ0 : Hid _ := hz0
  have HZ1 : Hid _ := hz1
  have HZ2 : Hid _ := hz2
  clear hi hz0 hz1 hz2
  go_wp2_with fail
  go_loopw [4] (fun p wr => ∃ k : Nat, k ≤ ms.length ∧ p = .int .i64 k ∧ Hid (Held wr (n0 + 2) B (upto G k)) ∧ Hid (Below (n0 + 2) X wr)) (fun p _ => ms.length - (intOf p).toNat)
  case atStart => exact ⟨0, Nat.zero_le _, rfl, HH, HB⟩
  case round =>
    clear HH HB
    obtain ⟨k, hk, rfl, HH, HB⟩ := hrel
    have HGR : Hid _ := graphAt_below HGX.out (by rw [sX]; exact HB.out)
    have TPr : Five wr n0 55 (.slice a1 ms.length c1) (.slice a2 n2 c2) (.slice a3 n3 c3) (.int .i64 G.next) (.int .i64 G.seed) := (HB.out.block n0 (by omega)).trans HTP.out
    obtain ⟨y0, _, _, _, _, _⟩ := five_cells TPr
    have szr : n0 + 2 ≤ wr.heap.size := by have := HB.out.size; omega
    clear TPr
    by_cases hlt : k < ms.length
    · obtain ⟨ea, ⟨⟨ao, co, eo, hlco, hcmo, _, hco⟩, hrefs⟩, _, _⟩ := HGR.out
      injection eo with e1 e2 e3
      subst e1 e3
      have RA := hrefs _ (mem_getD hlt)
      obtain ⟨b, off, rfl, hb, hcc⟩ := hco (by omega)
      obtain ⟨x0, x1, x2, x3, x4⟩ := hcc k hlt
      obtain ⟨sa, sc, hsv, _⟩ := RA
      have RA := hrefs _ (mem_getD hlt)
      rw [hsv] at RA
      have hsl := HSS.out _ (mem_getD hlt)
      have HAB : Hid (G.objs.getD k obD = (ms.getD k moD).abs) := by show _ = _; rw [← ea, abs_getD]
      obtain ⟨o', r', m', ns, T, O, N, _⟩ := HH.out
      have HT : Hid _ := T
      have HO : Hid _ := O
      have HN : Hid _ := N
      have HR : Hid _ := RA
      clear T O N RA hcc hco hrefs ea HGR HH hcmo hlco
      generalize hxx : ms.getD k moD = x at *
      obtain ⟨xi, xc, xf, xh, xv, xs⟩ := x
      simp only at hsv hsl HAB
      subst hsv
      clear hxx
      -- the object's own block, and an empty list
      obtain ⟨Y, hY⟩ : ∃ Y, Y = (wr.alloc (ob ⟨xi, xc, xf, xh, .slice sa xs.length sc, xs⟩)).alloc (.cells #[] 67) := ⟨_, rfl⟩
      have BY : Below wr.heap.size wr Y := by rw [hY]; exact ((Below.refl _ wr).alloc (Nat.le_refl _) _).alloc (by simp) _
      have TY : Five Y wr.heap.size 72 (.int .i64 xi) (.int .i64 xc) (.int .i64 xf) (.int .i64 xh) (.slice sa xs.length sc) := by rw [hY]; exact five_below (five_new wr _ _ _ _ _ _) ((Below.refl _ _).alloc (Nat.le_refl _) _)
      have EY : Y.heap[wr.heap.size + 1]? = some (.cells #[] 67 (0, 0)) := by
        have := heap_alloc_new (wr.alloc (ob ⟨xi, xc, xf, xh, .slice sa xs.length sc, xs⟩)) (.cells #[] 67)
        rw [hY]
        simpa using this
      have RY := refsAt_below HR.out BY
      have sY : Y.heap.size = wr.heap.size + 2 := by rw [hY]; simp
      have HTY : Hid _ := TY
      have HBY : Hid _ := BY
      have HEY : Hid _ := EY
      have HRY : Hid _ := RY
      have HSY : Hid _ := sY
      clear TY BY EY RY HR sY
      go_wp2_with (at_builtin; rw [← hY]; refine wpList_app0 HRY.out hsl HEY.out rfl _ _ rfl rfl rfl ?_; intro q c w7 hq hO7 hb7; refine Hid.out ?_)
      have hns : ns.length ≤ k := by
        have := congrArg List.length HO.out.1
        have hl := HLEN.out
        simp only [List.length_map, upto, List.length_take] at this
        omega
      have sY := HSY.out
      have b7 := HBY.out.trans (hb7.mono (by omega))
      have T7 := five_below HTY.out hb7
      have CH7 := one_ch w7 wr.heap.size 4 (.slice (some ⟨q, 0, none⟩) xs.length c)
      have T8 := five_set4 T7 (.slice (some ⟨q, 0, none⟩) xs.length c)
      have hqr : wr.heap.size + 1 ≤ q := by omega
      have s7 := b7.size
      have O7 := row_ch (hO7 (n0 + 2) (by omega)) CH7 (fun x hx e => by
        rw [blk_some, List.mem_singleton] at hx
        rw [List.mem_singleton] at e
        omega)
      have b8 : Below wr.heap.size wr (w7.setCell ⟨wr.heap.size, 4, none⟩ (.slice (some ⟨q, 0, none⟩) xs.length c)) := b7.setCell (p := ⟨wr.heap.size, 4, none⟩) (Nat.le_refl _) _
      have hoo : ∃ a n c, o' = .slice a n c := by obtain ⟨⟨a, c, e, _⟩, _⟩ := ownO_at HO.out.2.1; exact ⟨a, _, c, e⟩
      obtain ⟨oa, on, oc, rfl⟩ := hoo
      obtain ⟨u0, _, _, _, _, _⟩ := five_cells (five_below HT.out b8)
      obtain ⟨t0, t1, t2, t3, t4, tf⟩ := five_cells T7
      have tf4 := tf 4
      obtain ⟨s0, s1, s2, s3, s4, _⟩ := five_cells T8
      obtain ⟨W9, hW9⟩ : ∃ W9, W9 = (w7.setCell ⟨wr.heap.size, 4, none⟩ (.slice (some ⟨q, 0, none⟩) xs.length c)).alloc (.cells #[.int .i64 xi, .int .i64 xc, .int .i64 xf, .int .i64 xh, .slice (some ⟨q, 0, none⟩) xs.length c] 72) := ⟨_, rfl⟩
      have B9 : Below wr.heap.size wr W9 := by rw [hW9]; exact b8.alloc b8.size _
      have O9 := ownG_below HO.out B9
      have R9 : OwnR W9 (n0 + 2) (.slice (some ⟨q, 0, none⟩) xs.length c) xs := by rw [hW9]; exact ownR_below O7 ((Below.refl _ _).alloc (Nat.le_refl _) _)
      have s9 : (w7.setCell ⟨wr.heap.size, 4, none⟩ (.slice (some ⟨q, 0, none⟩) xs.length c)).heap.size = w7.heap.size := by simp
      have HNW : Hid (∀ j u, (cellsO [⟨xi, xc, xf, xh, .slice (some ⟨q, 0, none⟩) xs.length c, xs⟩])[j]? = some u → W9.cell? ((⟨w7.heap.size, 0, none⟩ : Addr).add j) = some u) := by
        rw [hW9]
        have := World.news_of_block (heap_alloc_new (w7.setCell ⟨wr.heap.size, 4, none⟩ (.slice (some ⟨q, 0, none⟩) xs.length c)) (.cells #[.int .i64 xi, .int .i64 xc, .int .i64 xf, .int .i64 xh, .slice (some ⟨q, 0, none⟩) xs.length c] 72))
        rw [s9] at this
        exact this
      have HON : Hid (∀ u ∈ cellsO [⟨xi, xc, xf, xh, .slice (some ⟨q, 0, none⟩) xs.length c, xs⟩], u.oneCell' = true) := cellsO_one (fun m hm => by rw [List.mem_singleton] at hm; rw [hm]; exact ⟨_, _, _, rfl⟩)
      have HAP : Hid (∀ v' w10, w10.ownsRow (n0 + 2) 72 5 v' (ns.length + 1) (cellsO ns ++ cellsO [⟨xi, xc, xf, xh, .slice (some ⟨q, 0, none⟩) xs.length c, xs⟩]) → W9.grownBy w10 (Value.slice oa on oc).ownBlock → (v'.ownBlock = (Value.slice oa on oc).ownBlock ∨ v'.ownBlock = some W9.heap.size) → _) := fun v' w10 h1 h2 h3 => ownG_app O9 R9 (fun x hx e => by
        rw [blk_some, List.mem_singleton] at hx
        have := (ownG_lt HO.out x e).2
        omega) h1 h2 h3
      have HB9 : Hid _ := B9
      have HO9 : Hid _ := O9.2.1.1
      have s9' : n0 + 2 ≤ W9.heap.size := Nat.le_trans szr B9.size
      clear T7 T8 O7 b7 b8 CH7 hO7 hb7 hq HTY HBY HEY HRY HSY B9 O9 R9 tf s9 x0 x1 x2 x3 x4 hY sY
      refine Go.Lib.hid ?_
      go_wp2_with (at_builtin; refine Hid.out ?_)
      refine Go.Lib.hid ?_
      rw [← hW9]
      refine wpList_append_own_at _ rfl _ _ 52 rfl (n0 + 2) 72 i0 (.agg #[.int .i64 0, .int .i64 0, .int .i64 0, .int .i64 0, .slice none 0 0]) 5 56 Try.underlying52 HI.out HZ0.out HZ1.out HZ2.out rfl (by decide) (.slice oa on oc) ns.length (cellsO ns) rfl HO9.out ⟨w7.heap.size, 0, none⟩ 1 1 (cellsO [⟨xi, xc, xf, xh, .slice (some ⟨q, 0, none⟩) xs.length c, xs⟩]) rfl rfl HNW.out HON.out (by unfold maxLen; omega) (by omega) s9' ?_
      intro v' w10 hown hgrow hnil hat
      obtain ⟨AP, CH, AM⟩ := HAP.out v' w10 hown hgrow hat
      obtain ⟨g', c', rfl⟩ := ownRow_form hown (by omega)
      have T9 := five_below HT.out HB9.out
      have nB : B ∉ blk (.slice oa on oc) := fun e => HN.out (by simp only [gblk, List.mem_append]; exact .inl (.inl (.inl e)))
      have T10 := five_ch T9 CH nB
      obtain ⟨u0', _, _, _, _, uf⟩ := five_cells T10
      have uf0 := uf 0
      have lB := lt_of_block HT.out
      have nB2 : B ∉ gblk (.slice (some ⟨g', 0, none⟩) (ns.length + 1) c') r' m' (ns ++ [⟨xi, xc, xf, xh, .slice (some ⟨q, 0, none⟩) xs.length c, xs⟩]) := fun e => by
        rcases AM B e with e | e | e
        · exact HN.out e
        · rw [blk_some, List.mem_singleton] at e; omega
        · have := HB9.out.size; omega
      have eG : ({ upto G k with objs := (upto G k).objs ++ [(⟨xi, xc, xf, xh, .slice (some ⟨q, 0, none⟩) xs.length c, xs⟩ : MO).abs] } : Gr) = upto G (k + 1) := by
        have hl := HLEN.out
        have et : G.objs.take k ++ [(⟨xi, xc, xf, xh, .slice (some ⟨q, 0, none⟩) xs.length c, xs⟩ : MO).abs] = G.objs.take (k + 1) := by
          rw [List.take_add_one, List.getElem?_eq_getElem (by omega)]
          have := HAB.out
          rw [List.getD_eq_getElem?_getD, List.getElem?_eq_getElem (by omega)] at this
          simp only [Option.getD_some] at this
          rw [this]
          rfl
        show (⟨G.objs.take k ++ [(⟨xi, xc, xf, xh, .slice (some ⟨q, 0, none⟩) xs.length c, xs⟩ : MO).abs], G.roots, G.mourned, G.next, G.seed⟩ : Gr) = ⟨G.objs.take (k + 1), G.roots, G.mourned, G.next, G.seed⟩
        rw [et]
      rw [eG] at AP
      have HHN : Hid (Held (w10.setCell ⟨B, 0, none⟩ (.slice (some ⟨g', 0, none⟩) (ns.length + 1) c')) (n0 + 2) B (upto G (k + 1))) := ⟨_, _, _, _, five_set0 T10 _, ownG_ch AP (one_ch w10 B 0 _) (fun x hx e => nB2 ((List.mem_singleton.1 e) ▸ hx)), nB2, hBB⟩
      have b10 : Below (n0 + 2) X w10 := (HB.out.trans (HB9.out.mono szr)).trans (below_ch CH s9' (fun x hx => (ownG_lt HO.out x (by simp only [gblk, List.mem_append]; exact .inl (.inl (.inl hx)))).1))
      have HBN : Hid (Below (n0 + 2) X (w10.setCell ⟨B, 0, none⟩ (.slice (some ⟨g', 0, none⟩) (ns.length + 1) c'))) := b10.setCell (p := ⟨B, 0, none⟩) hBB _
      clear AP CH AM T9 T10 uf lB nB nB2 eG b10 HAP HNW HON HB9 HO9 hown hgrow hat hnil HN HT HO u0 t0 t1 t2 t3 t4 tf4 s0 s1 s2 s3 s4 hW9
      go_wp2
      exact ⟨⟨k + 1, by omega, by go_num, HHN, HBN⟩, by simp [intOf]; omega⟩
    · have e : k = ms.length := by omega
      subst e
      rw [HLEN.out, upto_all] at HH
      obtain ⟨o', r', m', ns, T, O, N, _⟩ := HH.out
      obtain ⟨a1', n1', c1', a2', n2', c2', a3', n3', c3', e1, e2, e3⟩ := graphAt_slices (ownG_at O)
      subst e1 e2 e3
      have TRr : Five wr (n0 + 1) 55 (.slice none 0 0) (.slice none 0 0) (.slice none 0 0) (.int .i64 0) (.int .i64 0) := (HB.out.block (n0 + 1) (by omega)).trans HTR.out
      have Bw : Below n0 w wr := HB0.out.trans (HB.out.mono (by omega))
      obtain ⟨z0, z1, z2, z3, z4, _⟩ := five_cells T
      obtain ⟨v0, v1, v2, v3, v4, vf⟩ := five_cells TRr
      have g0 := vf 0
      have g1 := vf 1
      have g2 := vf 2
      have g3 := vf 3
      have g4 := vf 4
      have HOW : Hid _ := ownG_base (ownG_ch O (five_other (X := wr) (b := n0 + 1) (.slice a1' n1' c1') (.slice a2' n2' c2') (.slice a3' n3' c3') (.int .i64 G.next) (.int .i64 G.seed)) (fun x hx e => by have := (ownG_lt O x hx).1; rw [List.mem_singleton] at e; omega)) (show n0 ≤ n0 + 2 by omega)
      have HTX : Hid _ := five_sets TRr (.slice a1' n1' c1') (.slice a2' n2' c2') (.slice a3' n3' c3') (.int .i64 G.next) (.int .i64 G.seed)
      have HBX : Hid _ := five_belows Bw (show n0 ≤ n0 + 1 by omega) (.slice a1' n1' c1') (.slice a2' n2' c2') (.slice a3' n3' c3') (.int .i64 G.next) (.int .i64 G.seed)
      clear vf O T N TRr Bw HH HB HGR HGX HTP HTR HB0 HSS HEN HLEN HSZ HI HZ0 HZ1 HZ2
      go_wp2
      exact bodyPost_ret (res_gr rfl rfl HTX.out) rfl ⟨_, _, _, ns, rfl, HOW.out, HBX.out⟩
end Go.Proofs.Ytdogibjgogcdkab.gr
namespace Go.Proofs.Ytdogibjgogcdkab.gr
open Go.RowKit rows heads
set_option maxRecDepth 100000

set_option maxHeartbeats 8000000 in
theorem sGMade_any {w : World} {o r m : Value} {ms : List MO} {G : Gr} (h : GraphAt w o r m ms G) (hs : gSize ms G ≤ 1048576) (x : Int) (c : Int) (f : Int) (s : Int) :
    Calls Try.prog 37 #[gv o r m G.next G.seed, .int .i64 x, .int .i64 c, .int .i64 f, .int .i64 s] w fun e w' => ∃ o' r' m' rs, e = .returned (.tuple #[gv o' r' m' (gMade G x c f s).1.next (gMade G x c f s).1.seed, .bool (gMade G x c f s).2]) ∧ OwnG w' w.heap.size o' r' m' rs (gMade G x c f s).1 ∧ Below w.heap.size w w' := by
  obtain ⟨a1, n1, c1, a2, n2, c2, a3, n3, c3, e1, e2, e3⟩ := graphAt_slices h
  subst e1 e2 e3
  generalize hn0 : w.heap.size = n0 at *
  have B0 : Below n0 w ((w.alloc (gb (.slice a1 n1 c1) (.slice a2 n2 c2) (.slice a3 n3 c3) G.next G.seed)).alloc (gb (.slice none 0 0) (.slice none 0 0) (.slice none 0 0) 0 0)) := (((Below.refl _ w).alloc (by first | omega | (simp; omega)) _).alloc (by first | omega | (simp; omega)) _)
  have TP : Five ((w.alloc (gb (.slice a1 n1 c1) (.slice a2 n2 c2) (.slice a3 n3 c3) G.next G.seed)).alloc (gb (.slice none 0 0) (.slice none 0 0) (.slice none 0 0) 0 0)) n0 55 (.slice a1 n1 c1) (.slice a2 n2 c2) (.slice a3 n3 c3) (.int .i64 G.next) (.int .i64 G.seed) := by
    rw [← hn0]
    exact heap_push (heap_alloc_new _ _)
  have TR : Five ((w.alloc (gb (.slice a1 n1 c1) (.slice a2 n2 c2) (.slice a3 n3 c3) G.next G.seed)).alloc (gb (.slice none 0 0) (.slice none 0 0) (.slice none 0 0) 0 0)) (n0 + 1) 55 (.slice none 0 0) (.slice none 0 0) (.slice none 0 0) (.int .i64 0) (.int .i64 0) := by
    rw [show n0 + 1 = (w.alloc (gb (.slice a1 n1 c1) (.slice a2 n2 c2) (.slice a3 n3 c3) G.next G.seed)).heap.size by simp; omega]
    exact heap_alloc_new _ _
  have hX : n0 + 2 ≤ ((w.alloc (gb (.slice a1 n1 c1) (.slice a2 n2 c2) (.slice a3 n3 c3) G.next G.seed)).alloc (gb (.slice none 0 0) (.slice none 0 0) (.slice none 0 0) 0 0)).heap.size := by simp; omega
  have HG : Hid (∀ {X : World}, Below n0 w X → GraphAt X (.slice a1 n1 c1) (.slice a2 n2 c2) (.slice a3 n3 c3) ms G) := fun {X} hb => graphAt_below h (by rw [hn0]; exact hb)
  have GO := sGraphOk_any (HG.out B0) hs
  have HC0 : gOk G = true → ∀ (base P : Nat) (W : World), Held W base P G → Calls Try.prog 106 #[.pointer (some ⟨P, 0, none⟩), .int .i64 x, .int .i64 c, .int .i64 f, .int .i64 s] W fun e w' => e = .returned (.bool (made G x c f s).2) ∧ Held w' base P (made G x c f s).1 ∧ Below base W w' := fun ok base P W hH => l6Make_any hH ok x c f s
  have HE0 : (gOk G = true → gMade G x c f s = made G x c f s) ∧ (gOk G = false → gMade G x c f s = (gr0, false)) := by
    unfold gMade
    exact ⟨fun e => by rw [e]; rfl, fun e => by rw [e]; rfl⟩
  obtain ⟨RG, hRG⟩ : ∃ RG, (gMade G x c f s).1 = RG := ⟨_, rfl⟩
  obtain ⟨RB, hRB⟩ : ∃ RB, (gMade G x c f s).2 = RB := ⟨_, rfl⟩
  obtain ⟨CR, hCR⟩ : ∃ CR, (made G x c f s).1 = CR := ⟨_, rfl⟩
  obtain ⟨cb, hcb⟩ : ∃ cb, (made G x c f s).2 = cb := ⟨_, rfl⟩
  have HE : Hid ((gOk G = true → RG = CR ∧ RB = cb) ∧ (gOk G = false → RG = gr0 ∧ RB = false)) := by
    rw [← hRG, ← hRB, ← hCR, ← hcb]
    exact ⟨fun e => by rw [HE0.1 e]; exact ⟨rfl, rfl⟩, fun e => by rw [HE0.2 e]; exact ⟨rfl, rfl⟩⟩
  rw [hRG, hRB]
  rw [hCR, hcb] at HC0
  have HC : Hid _ := HC0
  clear hRG hRB hCR hcb HC0 HE0
  clear h
  go_enter Try.func37, Try.ntmps37
  go_wp2_with fail
  generalize ((w.alloc (gb (.slice a1 n1 c1) (.slice a2 n2 c2) (.slice a3 n3 c3) G.next G.seed)).alloc (gb (.slice none 0 0) (.slice none 0 0) (.slice none 0 0) 0 0)) = X at *
  refine GO.mono ?_
  rintro e w1 ⟨rfl, b1⟩
  have B1 := B0.trans (b1.mono (by omega))
  have TP1 := five_below TP b1
  have TR1 := five_below TR b1
  have s1 : n0 + 2 ≤ w1.heap.size := Nat.le_trans hX b1.size
  clear GO TP TR B0 b1 hX
  obtain ⟨v0, v1, v2, v3, v4, vf⟩ := five_cells TR1
  have g0 := vf 0
  have g1 := vf 1
  have g2 := vf 2
  have g3 := vf 3
  have g4 := vf 4
  cases ok : gOk G
  · obtain ⟨ERG, ERB⟩ := HE.out.2 ok
    subst ERG
    have HRB : Hid _ := ERB
    clear ERB HE
    have HTX : Hid _ := five_sets TR1 (.slice none 0 0) (.slice none 0 0) (.slice none 0 0) (.int .i64 0) (.int .i64 0)
    have HBX : Hid _ := five_belows B1 (show n0 ≤ n0 + 1 by omega) (.slice none 0 0) (.slice none 0 0) (.slice none 0 0) (.int .i64 0) (.int .i64 0)
    clear HC HG TP1 TR1 B1 vf
    go_wp2
    exact bodyPost_ret (res_gr2 rfl rfl rfl HTX.out) rfl ⟨_, _, _, [], by rw [HRB.out]; rfl, ownG_zero _ _, HBX.out⟩
  · obtain ⟨ERG0, ERB0⟩ := HE.out.1 ok
    have ERG : Hid _ := ERG0
    have ERB : Hid _ := ERB0
    clear ERG0 ERB0 HE
    have CG := l6Copy_any (HG.out B1) hs
    obtain ⟨z0, z1, z2, z3, z4, _⟩ := five_cells TP1
    have HC1 : Hid _ := HC.out ok
    have HTR1 : Hid _ := TR1
    have HB1 : Hid _ := B1
    clear HC HG TP1 TR1 B1 vf
    go_wp2_with fail
    refine CG.mono ?_
    rintro e w2 ⟨o', r', m', ns, rfl, OG, b2⟩
    obtain ⟨a1', n1', c1', a2', n2', c2', a3', n3', c3', e1, e2, e3⟩ := graphAt_slices (ownG_at OG)
    subst e1 e2 e3
    clear CG z0 z1 z2 z3 z4 v0 v1 v2 v3 v4 g0 g1 g2 g3 g4
    have s2 := b2.size
    have BA : Below w2.heap.size w2 (w2.alloc (gb (.slice a1' n1' c1') (.slice a2' n2' c2') (.slice a3' n3' c3') G.next G.seed)) := (Below.refl _ w2).alloc (Nat.le_refl _) _
    have HH : Held (w2.alloc (gb (.slice a1' n1' c1') (.slice a2' n2' c2') (.slice a3' n3' c3') G.next G.seed)) w1.heap.size w2.heap.size G :=
      ⟨_, _, _, ns, five_new w2 _ _ _ _ _ _, ownG_below OG BA, fun e => by have := (ownG_lt OG _ e).2; omega, s2⟩
    have B2 := (HB1.out.trans (b2.mono (by omega))).trans (BA.mono (by omega))
    have CL := HC1.out w1.heap.size w2.heap.size _ HH
    have HTR2 : Hid _ := five_below (five_below HTR1.out b2) BA
    have HB2 : Hid _ := B2
    have s3 : w1.heap.size ≤ (w2.alloc (gb (.slice a1' n1' c1') (.slice a2' n2' c2') (.slice a3' n3' c3') G.next G.seed)).heap.size := by simp; omega
    clear OG b2 BA HH B2 HC1 HTR1 HB1
    go_wp2_with (go_at_call 106; refine CL.mono ?_; rintro e w4 ⟨rfl, ⟨o4, r4, m4, rs, T4, O4, N4, _⟩, b4⟩; have HT4 : Hid _ := T4; have HO4 : Hid _ := O4; have HB4 : Hid _ := b4; clear T4 O4 b4 N4 CL; refine Hid.out ?_)
    have O4 := HO4.out
    have T4 := HT4.out
    have B4 := HB2.out.trans (HB4.out.mono (by omega))
    have TR4 : Five w4 (n0 + 1) 55 (.slice none 0 0) (.slice none 0 0) (.slice none 0 0) (.int .i64 0) (.int .i64 0) := (HB4.out.block (n0 + 1) (by omega)).trans HTR2.out
    obtain ⟨a1, n1, c1, a2, n2, c2, a3, n3, c3, e1, e2, e3⟩ := graphAt_slices (ownG_at O4)
    subst e1 e2 e3
    obtain ⟨z0, z1, z2, z3, z4, _⟩ := five_cells T4
    obtain ⟨v0, v1, v2, v3, v4, vf⟩ := five_cells TR4
    have g0 := vf 0
    have g1 := vf 1
    have g2 := vf 2
    have g3 := vf 3
    have g4 := vf 4
    have HOW : Hid _ := ownG_base (ownG_ch O4 (five_other (X := w4) (b := n0 + 1) (.slice a1 n1 c1) (.slice a2 n2 c2) (.slice a3 n3 c3) (.int .i64 CR.next) (.int .i64 CR.seed)) (fun x hx e => by have := (ownG_lt O4 x hx).1; rw [List.mem_singleton] at e; omega)) (show n0 ≤ w1.heap.size by omega)
    have HTX : Hid _ := five_sets TR4 (.slice a1 n1 c1) (.slice a2 n2 c2) (.slice a3 n3 c3) (.int .i64 CR.next) (.int .i64 CR.seed)
    have HBX : Hid _ := five_belows B4 (show n0 ≤ n0 + 1 by omega) (.slice a1 n1 c1) (.slice a2 n2 c2) (.slice a3 n3 c3) (.int .i64 CR.next) (.int .i64 CR.seed)
    clear vf O4 T4 B4 TR4 HO4 HT4 HB4 HB2 HTR2
    refine Go.Lib.hid ?_
    go_wp2
    exact bodyPost_ret (res_gr2 rfl rfl rfl HTX.out) rfl ⟨_, _, _, rs, by rw [ERB.out, ERG.out], by rw [ERG.out]; exact HOW.out, HBX.out⟩
end Go.Proofs.Ytdogibjgogcdkab.gr
namespace Go.Proofs.Ytdogibjgogcdkab.gr
open Go.RowKit rows heads
set_option maxRecDepth 100000

theorem egGStored : ∀ args w, (callFunc 102 args).run Try.prog w = .ok (.enter 102 args) w := fun args w => by go_simp
set_option maxHeartbeats 8000000 in
theorem implGStored {w : World} {o r m : Value} {ms : List MO} {G : Gr} (h : GraphAt w o r m ms G) (hs : gSize ms G ≤ 1048576) (t : Int) (s : Int) (f : Int) :
    Calls Try.prog 34 #[gv o r m G.next G.seed, .int .i64 t, .int .i64 s, .int .i64 f] w fun e w' => ∃ o' r' m' rs, e = .returned (.tuple #[gv o' r' m' (gStored G t s f).1.next (gStored G t s f).1.seed, .bool (gStored G t s f).2]) ∧ OwnG w' w.heap.size o' r' m' rs (gStored G t s f).1 ∧ Below w.heap.size w w' := by
  obtain ⟨a1, n1, c1, a2, n2, c2, a3, n3, c3, e1, e2, e3⟩ := graphAt_slices h
  subst e1 e2 e3
  generalize hn0 : w.heap.size = n0 at *
  obtain ⟨X, hX⟩ : ∃ X, X = (((((w.alloc (gb (.slice a1 n1 c1) (.slice a2 n2 c2) (.slice a3 n3 c3) G.next G.seed)).alloc (.cells #[.int .i64 t] 2)).alloc (.cells #[.int .i64 s] 2)).alloc (.cells #[.int .i64 f] 2)).alloc (gb (.slice none 0 0) (.slice none 0 0) (.slice none 0 0) 0 0)) := ⟨_, rfl⟩
  have sX : X.heap.size = n0 + 5 := by rw [hX]; simp; omega
  have B0 : Below n0 w X := by rw [hX]; exact ((((((Below.refl _ w).alloc (by first | omega | (simp; omega)) _).alloc (by first | omega | (simp; omega)) _).alloc (by first | omega | (simp; omega)) _).alloc (by first | omega | (simp; omega)) _).alloc (by first | omega | (simp; omega)) _)
  have K1 : X.heap[n0 + 1]? = some (.cells #[.int .i64 t] 2) := by
    rw [hX, show n0 + 1 = (w.alloc (gb (.slice a1 n1 c1) (.slice a2 n2 c2) (.slice a3 n3 c3) G.next G.seed)).heap.size by simp; omega]
    exact heap_push (heap_push (heap_push (heap_alloc_new _ _)))
  have k1 : X.cell? ⟨n0 + 1, 0, none⟩ = some (.int .i64 t) := by simp [World.cell?, K1]
  have K2 : X.heap[n0 + 2]? = some (.cells #[.int .i64 s] 2) := by
    rw [hX, show n0 + 2 = ((w.alloc (gb (.slice a1 n1 c1) (.slice a2 n2 c2) (.slice a3 n3 c3) G.next G.seed)).alloc (.cells #[.int .i64 t] 2)).heap.size by simp; omega]
    exact heap_push (heap_push (heap_alloc_new _ _))
  have k2 : X.cell? ⟨n0 + 2, 0, none⟩ = some (.int .i64 s) := by simp [World.cell?, K2]
  have K3 : X.heap[n0 + 3]? = some (.cells #[.int .i64 f] 2) := by
    rw [hX, show n0 + 3 = (((w.alloc (gb (.slice a1 n1 c1) (.slice a2 n2 c2) (.slice a3 n3 c3) G.next G.seed)).alloc (.cells #[.int .i64 t] 2)).alloc (.cells #[.int .i64 s] 2)).heap.size by simp; omega]
    exact heap_push (heap_alloc_new _ _)
  have k3 : X.cell? ⟨n0 + 3, 0, none⟩ = some (.int .i64 f) := by simp [World.cell?, K3]
  have TR : Five X (n0 + 4) 55 (.slice none 0 0) (.slice none 0 0) (.slice none 0 0) (.int .i64 0) (.int .i64 0) := by
    rw [hX, show n0 + 4 = ((((w.alloc (gb (.slice a1 n1 c1) (.slice a2 n2 c2) (.slice a3 n3 c3) G.next G.seed)).alloc (.cells #[.int .i64 t] 2)).alloc (.cells #[.int .i64 s] 2)).alloc (.cells #[.int .i64 f] 2)).heap.size by simp; omega]
    exact heap_alloc_new _ _
  have hb : ∀ {W : World}, Below X.heap.size X W → ∀ (p : Addr), p.block < X.heap.size → W.cell? p = X.cell? p := fun h p hp => h.cell (p := p) hp
  have ED := edited_any (graphAt_below h (by rw [hn0]; exact B0)) hs 102 #[.pointer (some ⟨n0 + 1, 0, none⟩), .pointer (some ⟨n0 + 2, 0, none⟩), .pointer (some ⟨n0 + 3, 0, none⟩)] egGStored (R := (store G t s f).1) (b := (store G t s f).2) (fun ok base P W _ hW hH => cStored_any hH ok t s f ((hb hW ⟨n0 + 1, 0, none⟩ (by show n0 + 1 < _; omega)).trans k1) ((hb hW ⟨n0 + 2, 0, none⟩ (by show n0 + 2 < _; omega)).trans k2) ((hb hW ⟨n0 + 3, 0, none⟩ (by show n0 + 3 < _; omega)).trans k3))
  have eR : (if gOk G = true then (store G t s f).1 else gr0) = (gStored G t s f).1 ∧ (gOk G && (store G t s f).2) = (gStored G t s f).2 := by
    unfold gStored
    cases gOk G <;> simp
  rw [eR.1, eR.2] at ED
  obtain ⟨RG, hRG⟩ : ∃ RG, (gStored G t s f).1 = RG := ⟨_, rfl⟩
  obtain ⟨RB, hRB⟩ : ∃ RB, (gStored G t s f).2 = RB := ⟨_, rfl⟩
  rw [hRG, hRB] at ED
  rw [hRG, hRB]
  have HTR : Hid _ := TR
  have HB0 : Hid _ := B0
  have HX : Hid _ := hX
  have l1 : n0 + 5 ≤ X.heap.size := by omega
  clear eR hRG hRB TR B0 hb h hs k1 K1 k2 K2 k3 K3
  go_enter Try.func34, Try.ntmps34
  go_wp2_with fail
  rw [hX] at ED
  generalize (((((w.alloc (gb (.slice a1 n1 c1) (.slice a2 n2 c2) (.slice a3 n3 c3) G.next G.seed)).alloc (.cells #[.int .i64 t] 2)).alloc (.cells #[.int .i64 s] 2)).alloc (.cells #[.int .i64 f] 2)).alloc (gb (.slice none 0 0) (.slice none 0 0) (.slice none 0 0) 0 0)) = X2 at *
  subst hX
  refine ED.mono ?_
  rintro e w1 ⟨o', r', m', rs, rfl, O1, b1⟩
  obtain ⟨a1', n1', c1', a2', n2', c2', a3', n3', c3', e1, e2, e3⟩ := graphAt_slices (ownG_at O1)
  subst e1 e2 e3
  have TR1 := five_below HTR.out b1
  have B1 := HB0.out.trans (b1.mono (by omega))
  obtain ⟨v0, v1, v2, v3, v4, vf⟩ := five_cells TR1
  have g0 := vf 0
  have g1 := vf 1
  have g2 := vf 2
  have g3 := vf 3
  have g4 := vf 4
  have HOW : Hid _ := ownG_base (ownG_ch O1 (five_other (X := w1) (b := n0 + 4) (.slice a1' n1' c1') (.slice a2' n2' c2') (.slice a3' n3' c3') (.int .i64 RG.next) (.int .i64 RG.seed)) (fun x hx e => by have := (ownG_lt O1 x hx).1; rw [List.mem_singleton] at e; omega)) (show n0 ≤ X.heap.size by omega)
  have HTX : Hid _ := five_sets TR1 (.slice a1' n1' c1') (.slice a2' n2' c2') (.slice a3' n3' c3') (.int .i64 RG.next) (.int .i64 RG.seed)
  have HBX : Hid _ := five_belows B1 (show n0 ≤ n0 + 4 by omega) (.slice a1' n1' c1') (.slice a2' n2' c2') (.slice a3' n3' c3') (.int .i64 RG.next) (.int .i64 RG.seed)
  clear vf O1 B1 TR1 HTR HB0 b1 ED sX l1
  go_wp2
  exact bodyPost_ret (res_gr2 rfl rfl rfl HTX.out) rfl ⟨_, _, _, rs, rfl, HOW.out, HBX.out⟩
end Go.Proofs.Ytdogibjgogcdkab.gr
namespace Go.Proofs.Ytdogibjgogcdkab.gr
open Go.RowKit rows heads
set_option maxRecDepth 100000

set_option maxHeartbeats 8000000 in
theorem sGStored_any {w : World} {o r m : Value} {ms : List MO} {G : Gr} (h : GraphAt w o r m ms G) (hs : gSize ms G ≤ 1048576) (t : Int) (s : Int) (f : Int) :
    Calls Try.prog 41 #[gv o r m G.next G.seed, .int .i64 t, .int .i64 s, .int .i64 f] w fun e w' => ∃ o' r' m' rs, e = .returned (.tuple #[gv o' r' m' (gStored G t s f).1.next (gStored G t s f).1.seed, .bool (gStored G t s f).2]) ∧ OwnG w' w.heap.size o' r' m' rs (gStored G t s f).1 ∧ Below w.heap.size w w' := by
  obtain ⟨a1, n1, c1, a2, n2, c2, a3, n3, c3, e1, e2, e3⟩ := graphAt_slices h
  subst e1 e2 e3
  generalize hn0 : w.heap.size = n0 at *
  have B0 : Below n0 w ((w.alloc (gb (.slice a1 n1 c1) (.slice a2 n2 c2) (.slice a3 n3 c3) G.next G.seed)).alloc (gb (.slice none 0 0) (.slice none 0 0) (.slice none 0 0) 0 0)) := (((Below.refl _ w).alloc (by first | omega | (simp; omega)) _).alloc (by first | omega | (simp; omega)) _)
  have TP : Five ((w.alloc (gb (.slice a1 n1 c1) (.slice a2 n2 c2) (.slice a3 n3 c3) G.next G.seed)).alloc (gb (.slice none 0 0) (.slice none 0 0) (.slice none 0 0) 0 0)) n0 55 (.slice a1 n1 c1) (.slice a2 n2 c2) (.slice a3 n3 c3) (.int .i64 G.next) (.int .i64 G.seed) := by
    rw [← hn0]
    exact heap_push (heap_alloc_new _ _)
  have TR : Five ((w.alloc (gb (.slice a1 n1 c1) (.slice a2 n2 c2) (.slice a3 n3 c3) G.next G.seed)).alloc (gb (.slice none 0 0) (.slice none 0 0) (.slice none 0 0) 0 0)) (n0 + 1) 55 (.slice none 0 0) (.slice none 0 0) (.slice none 0 0) (.int .i64 0) (.int .i64 0) := by
    rw [show n0 + 1 = (w.alloc (gb (.slice a1 n1 c1) (.slice a2 n2 c2) (.slice a3 n3 c3) G.next G.seed)).heap.size by simp; omega]
    exact heap_alloc_new _ _
  have hX : n0 + 2 ≤ ((w.alloc (gb (.slice a1 n1 c1) (.slice a2 n2 c2) (.slice a3 n3 c3) G.next G.seed)).alloc (gb (.slice none 0 0) (.slice none 0 0) (.slice none 0 0) 0 0)).heap.size := by simp; omega
  have HG : Hid (∀ {X : World}, Below n0 w X → GraphAt X (.slice a1 n1 c1) (.slice a2 n2 c2) (.slice a3 n3 c3) ms G) := fun {X} hb => graphAt_below h (by rw [hn0]; exact hb)
  have GO := sGraphOk_any (HG.out B0) hs
  have HC0 : gOk G = true → ∀ (base P : Nat) (W : World), Held W base P G → Calls Try.prog 112 #[.pointer (some ⟨P, 0, none⟩), .int .i64 t, .int .i64 s, .int .i64 f] W fun e w' => e = .returned (.bool (store G t s f).2) ∧ Held w' base P (store G t s f).1 ∧ Below base W w' := fun ok base P W hH => l6Store_any hH ok t s f
  have HE0 : (gOk G = true → gStored G t s f = store G t s f) ∧ (gOk G = false → gStored G t s f = (gr0, false)) := by
    unfold gStored
    exact ⟨fun e => by rw [e]; rfl, fun e => by rw [e]; rfl⟩
  obtain ⟨RG, hRG⟩ : ∃ RG, (gStored G t s f).1 = RG := ⟨_, rfl⟩
  obtain ⟨RB, hRB⟩ : ∃ RB, (gStored G t s f).2 = RB := ⟨_, rfl⟩
  obtain ⟨CR, hCR⟩ : ∃ CR, (store G t s f).1 = CR := ⟨_, rfl⟩
  obtain ⟨cb, hcb⟩ : ∃ cb, (store G t s f).2 = cb := ⟨_, rfl⟩
  have HE : Hid ((gOk G = true → RG = CR ∧ RB = cb) ∧ (gOk G = false → RG = gr0 ∧ RB = false)) := by
    rw [← hRG, ← hRB, ← hCR, ← hcb]
    exact ⟨fun e => by rw [HE0.1 e]; exact ⟨rfl, rfl⟩, fun e => by rw [HE0.2 e]; exact ⟨rfl, rfl⟩⟩
  rw [hRG, hRB]
  rw [hCR, hcb] at HC0
  have HC : Hid _ := HC0
  clear hRG hRB hCR hcb HC0 HE0
  clear h
  go_enter Try.func41, Try.ntmps41
  go_wp2_with fail
  generalize ((w.alloc (gb (.slice a1 n1 c1) (.slice a2 n2 c2) (.slice a3 n3 c3) G.next G.seed)).alloc (gb (.slice none 0 0) (.slice none 0 0) (.slice none 0 0) 0 0)) = X at *
  refine GO.mono ?_
  rintro e w1 ⟨rfl, b1⟩
  have B1 := B0.trans (b1.mono (by omega))
  have TP1 := five_below TP b1
  have TR1 := five_below TR b1
  have s1 : n0 + 2 ≤ w1.heap.size := Nat.le_trans hX b1.size
  clear GO TP TR B0 b1 hX
  obtain ⟨v0, v1, v2, v3, v4, vf⟩ := five_cells TR1
  have g0 := vf 0
  have g1 := vf 1
  have g2 := vf 2
  have g3 := vf 3
  have g4 := vf 4
  cases ok : gOk G
  · obtain ⟨ERG, ERB⟩ := HE.out.2 ok
    subst ERG
    have HRB : Hid _ := ERB
    clear ERB HE
    have HTX : Hid _ := five_sets TR1 (.slice none 0 0) (.slice none 0 0) (.slice none 0 0) (.int .i64 0) (.int .i64 0)
    have HBX : Hid _ := five_belows B1 (show n0 ≤ n0 + 1 by omega) (.slice none 0 0) (.slice none 0 0) (.slice none 0 0) (.int .i64 0) (.int .i64 0)
    clear HC HG TP1 TR1 B1 vf
    go_wp2
    exact bodyPost_ret (res_gr2 rfl rfl rfl HTX.out) rfl ⟨_, _, _, [], by rw [HRB.out]; rfl, ownG_zero _ _, HBX.out⟩
  · obtain ⟨ERG0, ERB0⟩ := HE.out.1 ok
    have ERG : Hid _ := ERG0
    have ERB : Hid _ := ERB0
    clear ERG0 ERB0 HE
    have CG := l6Copy_any (HG.out B1) hs
    obtain ⟨z0, z1, z2, z3, z4, _⟩ := five_cells TP1
    have HC1 : Hid _ := HC.out ok
    have HTR1 : Hid _ := TR1
    have HB1 : Hid _ := B1
    clear HC HG TP1 TR1 B1 vf
    go_wp2_with fail
    refine CG.mono ?_
    rintro e w2 ⟨o', r', m', ns, rfl, OG, b2⟩
    obtain ⟨a1', n1', c1', a2', n2', c2', a3', n3', c3', e1, e2, e3⟩ := graphAt_slices (ownG_at OG)
    subst e1 e2 e3
    clear CG z0 z1 z2 z3 z4 v0 v1 v2 v3 v4 g0 g1 g2 g3 g4
    have s2 := b2.size
    have BA : Below w2.heap.size w2 (w2.alloc (gb (.slice a1' n1' c1') (.slice a2' n2' c2') (.slice a3' n3' c3') G.next G.seed)) := (Below.refl _ w2).alloc (Nat.le_refl _) _
    have HH : Held (w2.alloc (gb (.slice a1' n1' c1') (.slice a2' n2' c2') (.slice a3' n3' c3') G.next G.seed)) w1.heap.size w2.heap.size G :=
      ⟨_, _, _, ns, five_new w2 _ _ _ _ _ _, ownG_below OG BA, fun e => by have := (ownG_lt OG _ e).2; omega, s2⟩
    have B2 := (HB1.out.trans (b2.mono (by omega))).trans (BA.mono (by omega))
    have CL := HC1.out w1.heap.size w2.heap.size _ HH
    have HTR2 : Hid _ := five_below (five_below HTR1.out b2) BA
    have HB2 : Hid _ := B2
    have s3 : w1.heap.size ≤ (w2.alloc (gb (.slice a1' n1' c1') (.slice a2' n2' c2') (.slice a3' n3' c3') G.next G.seed)).heap.size := by simp; omega
    clear OG b2 BA HH B2 HC1 HTR1 HB1
    go_wp2_with (go_at_call 112; refine CL.mono ?_; rintro e w4 ⟨rfl, ⟨o4, r4, m4, rs, T4, O4, N4, _⟩, b4⟩; have HT4 : Hid _ := T4; have HO4 : Hid _ := O4; have HB4 : Hid _ := b4; clear T4 O4 b4 N4 CL; refine Hid.out ?_)
    have O4 := HO4.out
    have T4 := HT4.out
    have B4 := HB2.out.trans (HB4.out.mono (by omega))
    have TR4 : Five w4 (n0 + 1) 55 (.slice none 0 0) (.slice none 0 0) (.slice none 0 0) (.int .i64 0) (.int .i64 0) := (HB4.out.block (n0 + 1) (by omega)).trans HTR2.out
    obtain ⟨a1, n1, c1, a2, n2, c2, a3, n3, c3, e1, e2, e3⟩ := graphAt_slices (ownG_at O4)
    subst e1 e2 e3
    obtain ⟨z0, z1, z2, z3, z4, _⟩ := five_cells T4
    obtain ⟨v0, v1, v2, v3, v4, vf⟩ := five_cells TR4
    have g0 := vf 0
    have g1 := vf 1
    have g2 := vf 2
    have g3 := vf 3
    have g4 := vf 4
    have HOW : Hid _ := ownG_base (ownG_ch O4 (five_other (X := w4) (b := n0 + 1) (.slice a1 n1 c1) (.slice a2 n2 c2) (.slice a3 n3 c3) (.int .i64 CR.next) (.int .i64 CR.seed)) (fun x hx e => by have := (ownG_lt O4 x hx).1; rw [List.mem_singleton] at e; omega)) (show n0 ≤ w1.heap.size by omega)
    have HTX : Hid _ := five_sets TR4 (.slice a1 n1 c1) (.slice a2 n2 c2) (.slice a3 n3 c3) (.int .i64 CR.next) (.int .i64 CR.seed)
    have HBX : Hid _ := five_belows B4 (show n0 ≤ n0 + 1 by omega) (.slice a1 n1 c1) (.slice a2 n2 c2) (.slice a3 n3 c3) (.int .i64 CR.next) (.int .i64 CR.seed)
    clear vf O4 T4 B4 TR4 HO4 HT4 HB4 HB2 HTR2
    refine Go.Lib.hid ?_
    go_wp2
    exact bodyPost_ret (res_gr2 rfl rfl rfl HTX.out) rfl ⟨_, _, _, rs, by rw [ERB.out, ERG.out], by rw [ERG.out]; exact HOW.out, HBX.out⟩
end Go.Proofs.Ytdogibjgogcdkab.gr
namespace Go.Proofs.Ytdogibjgogcdkab.gr
open Go.RowKit rows heads
set_option maxRecDepth 100000

theorem egGFetched : ∀ args w, (callFunc 104 args).run Try.prog w = .ok (.enter 104 args) w := fun args w => by go_simp
set_option maxHeartbeats 8000000 in
theorem implGFetched {w : World} {o r m : Value} {ms : List MO} {G : Gr} (h : GraphAt w o r m ms G) (hs : gSize ms G ≤ 1048576) (t : Int) (f : Int) (s : Int) :
    Calls Try.prog 36 #[gv o r m G.next G.seed, .int .i64 t, .int .i64 f, .int .i64 s] w fun e w' => ∃ o' r' m' rs, e = .returned (.tuple #[gv o' r' m' (gFetched G t f s).1.next (gFetched G t f s).1.seed, .bool (gFetched G t f s).2]) ∧ OwnG w' w.heap.size o' r' m' rs (gFetched G t f s).1 ∧ Below w.heap.size w w' := by
  obtain ⟨a1, n1, c1, a2, n2, c2, a3, n3, c3, e1, e2, e3⟩ := graphAt_slices h
  subst e1 e2 e3
  generalize hn0 : w.heap.size = n0 at *
  obtain ⟨X, hX⟩ : ∃ X, X = (((((w.alloc (gb (.slice a1 n1 c1) (.slice a2 n2 c2) (.slice a3 n3 c3) G.next G.seed)).alloc (.cells #[.int .i64 t] 2)).alloc (.cells #[.int .i64 f] 2)).alloc (.cells #[.int .i64 s] 2)).alloc (gb (.slice none 0 0) (.slice none 0 0) (.slice none 0 0) 0 0)) := ⟨_, rfl⟩
  have sX : X.heap.size = n0 + 5 := by rw [hX]; simp; omega
  have B0 : Below n0 w X := by rw [hX]; exact ((((((Below.refl _ w).alloc (by first | omega | (simp; omega)) _).alloc (by first | omega | (simp; omega)) _).alloc (by first | omega | (simp; omega)) _).alloc (by first | omega | (simp; omega)) _).alloc (by first | omega | (simp; omega)) _)
  have K1 : X.heap[n0 + 1]? = some (.cells #[.int .i64 t] 2) := by
    rw [hX, show n0 + 1 = (w.alloc (gb (.slice a1 n1 c1) (.slice a2 n2 c2) (.slice a3 n3 c3) G.next G.seed)).heap.size by simp; omega]
    exact heap_push (heap_push (heap_push (heap_alloc_new _ _)))
  have k1 : X.cell? ⟨n0 + 1, 0, none⟩ = some (.int .i64 t) := by simp [World.cell?, K1]
  have K2 : X.heap[n0 + 2]? = some (.cells #[.int .i64 f] 2) := by
    rw [hX, show n0 + 2 = ((w.alloc (gb (.slice a1 n1 c1) (.slice a2 n2 c2) (.slice a3 n3 c3) G.next G.seed)).alloc (.cells #[.int .i64 t] 2)).heap.size by simp; omega]
    exact heap_push (heap_push (heap_alloc_new _ _))
  have k2 : X.cell? ⟨n0 + 2, 0, none⟩ = some (.int .i64 f) := by simp [World.cell?, K2]
  have K3 : X.heap[n0 + 3]? = some (.cells #[.int .i64 s] 2) := by
    rw [hX, show n0 + 3 = (((w.alloc (gb (.slice a1 n1 c1) (.slice a2 n2 c2) (.slice a3 n3 c3) G.next G.seed)).alloc (.cells #[.int .i64 t] 2)).alloc (.cells #[.int .i64 f] 2)).heap.size by simp; omega]
    exact heap_push (heap_alloc_new _ _)
  have k3 : X.cell? ⟨n0 + 3, 0, none⟩ = some (.int .i64 s) := by simp [World.cell?, K3]
  have TR : Five X (n0 + 4) 55 (.slice none 0 0) (.slice none 0 0) (.slice none 0 0) (.int .i64 0) (.int .i64 0) := by
    rw [hX, show n0 + 4 = ((((w.alloc (gb (.slice a1 n1 c1) (.slice a2 n2 c2) (.slice a3 n3 c3) G.next G.seed)).alloc (.cells #[.int .i64 t] 2)).alloc (.cells #[.int .i64 f] 2)).alloc (.cells #[.int .i64 s] 2)).heap.size by simp; omega]
    exact heap_alloc_new _ _
  have hb : ∀ {W : World}, Below X.heap.size X W → ∀ (p : Addr), p.block < X.heap.size → W.cell? p = X.cell? p := fun h p hp => h.cell (p := p) hp
  have ED := edited_any (graphAt_below h (by rw [hn0]; exact B0)) hs 104 #[.pointer (some ⟨n0 + 2, 0, none⟩), .pointer (some ⟨n0 + 3, 0, none⟩), .pointer (some ⟨n0 + 1, 0, none⟩)] egGFetched (R := (fetch G t f s).1) (b := (fetch G t f s).2) (fun ok base P W _ hW hH => cFetched_any hH ok t f s ((hb hW ⟨n0 + 1, 0, none⟩ (by show n0 + 1 < _; omega)).trans k1) ((hb hW ⟨n0 + 2, 0, none⟩ (by show n0 + 2 < _; omega)).trans k2) ((hb hW ⟨n0 + 3, 0, none⟩ (by show n0 + 3 < _; omega)).trans k3))
  have eR : (if gOk G = true then (fetch G t f s).1 else gr0) = (gFetched G t f s).1 ∧ (gOk G && (fetch G t f s).2) = (gFetched G t f s).2 := by
    unfold gFetched
    cases gOk G <;> simp
  rw [eR.1, eR.2] at ED
  obtain ⟨RG, hRG⟩ : ∃ RG, (gFetched G t f s).1 = RG := ⟨_, rfl⟩
  obtain ⟨RB, hRB⟩ : ∃ RB, (gFetched G t f s).2 = RB := ⟨_, rfl⟩
  rw [hRG, hRB] at ED
  rw [hRG, hRB]
  have HTR : Hid _ := TR
  have HB0 : Hid _ := B0
  have HX : Hid _ := hX
  have l1 : n0 + 5 ≤ X.heap.size := by omega
  clear eR hRG hRB TR B0 hb h hs k1 K1 k2 K2 k3 K3
  go_enter Try.func36, Try.ntmps36
  go_wp2_with fail
  rw [hX] at ED
  generalize (((((w.alloc (gb (.slice a1 n1 c1) (.slice a2 n2 c2) (.slice a3 n3 c3) G.next G.seed)).alloc (.cells #[.int .i64 t] 2)).alloc (.cells #[.int .i64 f] 2)).alloc (.cells #[.int .i64 s] 2)).alloc (gb (.slice none 0 0) (.slice none 0 0) (.slice none 0 0) 0 0)) = X2 at *
  subst hX
  refine ED.mono ?_
  rintro e w1 ⟨o', r', m', rs, rfl, O1, b1⟩
  obtain ⟨a1', n1', c1', a2', n2', c2', a3', n3', c3', e1, e2, e3⟩ := graphAt_slices (ownG_at O1)
  subst e1 e2 e3
  have TR1 := five_below HTR.out b1
  have B1 := HB0.out.trans (b1.mono (by omega))
  obtain ⟨v0, v1, v2, v3, v4, vf⟩ := five_cells TR1
  have g0 := vf 0
  have g1 := vf 1
  have g2 := vf 2
  have g3 := vf 3
  have g4 := vf 4
  have HOW : Hid _ := ownG_base (ownG_ch O1 (five_other (X := w1) (b := n0 + 4) (.slice a1' n1' c1') (.slice a2' n2' c2') (.slice a3' n3' c3') (.int .i64 RG.next) (.int .i64 RG.seed)) (fun x hx e => by have := (ownG_lt O1 x hx).1; rw [List.mem_singleton] at e; omega)) (show n0 ≤ X.heap.size by omega)
  have HTX : Hid _ := five_sets TR1 (.slice a1' n1' c1') (.slice a2' n2' c2') (.slice a3' n3' c3') (.int .i64 RG.next) (.int .i64 RG.seed)
  have HBX : Hid _ := five_belows B1 (show n0 ≤ n0 + 4 by omega) (.slice a1' n1' c1') (.slice a2' n2' c2') (.slice a3' n3' c3') (.int .i64 RG.next) (.int .i64 RG.seed)
  clear vf O1 B1 TR1 HTR HB0 b1 ED sX l1
  go_wp2
  exact bodyPost_ret (res_gr2 rfl rfl rfl HTX.out) rfl ⟨_, _, _, rs, rfl, HOW.out, HBX.out⟩
end Go.Proofs.Ytdogibjgogcdkab.gr
namespace Go.Proofs.Ytdogibjgogcdkab.gr
open Go.RowKit rows heads
set_option maxRecDepth 100000

set_option maxHeartbeats 8000000 in
theorem sGFetched_any {w : World} {o r m : Value} {ms : List MO} {G : Gr} (h : GraphAt w o r m ms G) (hs : gSize ms G ≤ 1048576) (t : Int) (f : Int) (s : Int) :
    Calls Try.prog 42 #[gv o r m G.next G.seed, .int .i64 t, .int .i64 f, .int .i64 s] w fun e w' => ∃ o' r' m' rs, e = .returned (.tuple #[gv o' r' m' (gFetched G t f s).1.next (gFetched G t f s).1.seed, .bool (gFetched G t f s).2]) ∧ OwnG w' w.heap.size o' r' m' rs (gFetched G t f s).1 ∧ Below w.heap.size w w' := by
  obtain ⟨a1, n1, c1, a2, n2, c2, a3, n3, c3, e1, e2, e3⟩ := graphAt_slices h
  subst e1 e2 e3
  generalize hn0 : w.heap.size = n0 at *
  have B0 : Below n0 w ((w.alloc (gb (.slice a1 n1 c1) (.slice a2 n2 c2) (.slice a3 n3 c3) G.next G.seed)).alloc (gb (.slice none 0 0) (.slice none 0 0) (.slice none 0 0) 0 0)) := (((Below.refl _ w).alloc (by first | omega | (simp; omega)) _).alloc (by first | omega | (simp; omega)) _)
  have TP : Five ((w.alloc (gb (.slice a1 n1 c1) (.slice a2 n2 c2) (.slice a3 n3 c3) G.next G.seed)).alloc (gb (.slice none 0 0) (.slice none 0 0) (.slice none 0 0) 0 0)) n0 55 (.slice a1 n1 c1) (.slice a2 n2 c2) (.slice a3 n3 c3) (.int .i64 G.next) (.int .i64 G.seed) := by
    rw [← hn0]
    exact heap_push (heap_alloc_new _ _)
  have TR : Five ((w.alloc (gb (.slice a1 n1 c1) (.slice a2 n2 c2) (.slice a3 n3 c3) G.next G.seed)).alloc (gb (.slice none 0 0) (.slice none 0 0) (.slice none 0 0) 0 0)) (n0 + 1) 55 (.slice none 0 0) (.slice none 0 0) (.slice none 0 0) (.int .i64 0) (.int .i64 0) := by
    rw [show n0 + 1 = (w.alloc (gb (.slice a1 n1 c1) (.slice a2 n2 c2) (.slice a3 n3 c3) G.next G.seed)).heap.size by simp; omega]
    exact heap_alloc_new _ _
  have hX : n0 + 2 ≤ ((w.alloc (gb (.slice a1 n1 c1) (.slice a2 n2 c2) (.slice a3 n3 c3) G.next G.seed)).alloc (gb (.slice none 0 0) (.slice none 0 0) (.slice none 0 0) 0 0)).heap.size := by simp; omega
  have HG : Hid (∀ {X : World}, Below n0 w X → GraphAt X (.slice a1 n1 c1) (.slice a2 n2 c2) (.slice a3 n3 c3) ms G) := fun {X} hb => graphAt_below h (by rw [hn0]; exact hb)
  have GO := sGraphOk_any (HG.out B0) hs
  have HC0 : gOk G = true → ∀ (base P : Nat) (W : World), Held W base P G → Calls Try.prog 113 #[.pointer (some ⟨P, 0, none⟩), .int .i64 t, .int .i64 f, .int .i64 s] W fun e w' => e = .returned (.bool (fetch G t f s).2) ∧ Held w' base P (fetch G t f s).1 ∧ Below base W w' := fun ok base P W hH => l6Fetch_any hH ok t f s
  have HE0 : (gOk G = true → gFetched G t f s = fetch G t f s) ∧ (gOk G = false → gFetched G t f s = (gr0, false)) := by
    unfold gFetched
    exact ⟨fun e => by rw [e]; rfl, fun e => by rw [e]; rfl⟩
  obtain ⟨RG, hRG⟩ : ∃ RG, (gFetched G t f s).1 = RG := ⟨_, rfl⟩
  obtain ⟨RB, hRB⟩ : ∃ RB, (gFetched G t f s).2 = RB := ⟨_, rfl⟩
  obtain ⟨CR, hCR⟩ : ∃ CR, (fetch G t f s).1 = CR := ⟨_, rfl⟩
  obtain ⟨cb, hcb⟩ : ∃ cb, (fetch G t f s).2 = cb := ⟨_, rfl⟩
  have HE : Hid ((gOk G = true → RG = CR ∧ RB = cb) ∧ (gOk G = false → RG = gr0 ∧ RB = false)) := by
    rw [← hRG, ← hRB, ← hCR, ← hcb]
    exact ⟨fun e => by rw [HE0.1 e]; exact ⟨rfl, rfl⟩, fun e => by rw [HE0.2 e]; exact ⟨rfl, rfl⟩⟩
  rw [hRG, hRB]
  rw [hCR, hcb] at HC0
  have HC : Hid _ := HC0
  clear hRG hRB hCR hcb HC0 HE0
  clear h
  go_enter Try.func42, Try.ntmps42
  go_wp2_with fail
  generalize ((w.alloc (gb (.slice a1 n1 c1) (.slice a2 n2 c2) (.slice a3 n3 c3) G.next G.seed)).alloc (gb (.slice none 0 0) (.slice none 0 0) (.slice none 0 0) 0 0)) = X at *
  refine GO.mono ?_
  rintro e w1 ⟨rfl, b1⟩
  have B1 := B0.trans (b1.mono (by omega))
  have TP1 := five_below TP b1
  have TR1 := five_below TR b1
  have s1 : n0 + 2 ≤ w1.heap.size := Nat.le_trans hX b1.size
  clear GO TP TR B0 b1 hX
  obtain ⟨v0, v1, v2, v3, v4, vf⟩ := five_cells TR1
  have g0 := vf 0
  have g1 := vf 1
  have g2 := vf 2
  have g3 := vf 3
  have g4 := vf 4
  cases ok : gOk G
  · obtain ⟨ERG, ERB⟩ := HE.out.2 ok
    subst ERG
    have HRB : Hid _ := ERB
    clear ERB HE
    have HTX : Hid _ := five_sets TR1 (.slice none 0 0) (.slice none 0 0) (.slice none 0 0) (.int .i64 0) (.int .i64 0)
    have HBX : Hid _ := five_belows B1 (show n0 ≤ n0 + 1 by omega) (.slice none 0 0) (.slice none 0 0) (.slice none 0 0) (.int .i64 0) (.int .i64 0)
    clear HC HG TP1 TR1 B1 vf
    go_wp2
    exact bodyPost_ret (res_gr2 rfl rfl rfl HTX.out) rfl ⟨_, _, _, [], by rw [HRB.out]; rfl, ownG_zero _ _, HBX.out⟩
  · obtain ⟨ERG0, ERB0⟩ := HE.out.1 ok
    have ERG : Hid _ := ERG0
    have ERB : Hid _ := ERB0
    clear ERG0 ERB0 HE
    have CG := l6Copy_any (HG.out B1) hs
    obtain ⟨z0, z1, z2, z3, z4, _⟩ := five_cells TP1
    have HC1 : Hid _ := HC.out ok
    have HTR1 : Hid _ := TR1
    have HB1 : Hid _ := B1
    clear HC HG TP1 TR1 B1 vf
    go_wp2_with fail
    refine CG.mono ?_
    rintro e w2 ⟨o', r', m', ns, rfl, OG, b2⟩
    obtain ⟨a1', n1', c1', a2', n2', c2', a3', n3', c3', e1, e2, e3⟩ := graphAt_slices (ownG_at OG)
    subst e1 e2 e3
    clear CG z0 z1 z2 z3 z4 v0 v1 v2 v3 v4 g0 g1 g2 g3 g4
    have s2 := b2.size
    have BA : Below w2.heap.size w2 (w2.alloc (gb (.slice a1' n1' c1') (.slice a2' n2' c2') (.slice a3' n3' c3') G.next G.seed)) := (Below.refl _ w2).alloc (Nat.le_refl _) _
    have HH : Held (w2.alloc (gb (.slice a1' n1' c1') (.slice a2' n2' c2') (.slice a3' n3' c3') G.next G.seed)) w1.heap.size w2.heap.size G :=
      ⟨_, _, _, ns, five_new w2 _ _ _ _ _ _, ownG_below OG BA, fun e => by have := (ownG_lt OG _ e).2; omega, s2⟩
    have B2 := (HB1.out.trans (b2.mono (by omega))).trans (BA.mono (by omega))
    have CL := HC1.out w1.heap.size w2.heap.size _ HH
    have HTR2 : Hid _ := five_below (five_below HTR1.out b2) BA
    have HB2 : Hid _ := B2
    have s3 : w1.heap.size ≤ (w2.alloc (gb (.slice a1' n1' c1') (.slice a2' n2' c2') (.slice a3' n3' c3') G.next G.seed)).heap.size := by simp; omega
    clear OG b2 BA HH B2 HC1 HTR1 HB1
    go_wp2_with (go_at_call 113; refine CL.mono ?_; rintro e w4 ⟨rfl, ⟨o4, r4, m4, rs, T4, O4, N4, _⟩, b4⟩; have HT4 : Hid _ := T4; have HO4 : Hid _ := O4; have HB4 : Hid _ := b4; clear T4 O4 b4 N4 CL; refine Hid.out ?_)
    have O4 := HO4.out
    have T4 := HT4.out
    have B4 := HB2.out.trans (HB4.out.mono (by omega))
    have TR4 : Five w4 (n0 + 1) 55 (.slice none 0 0) (.slice none 0 0) (.slice none 0 0) (.int .i64 0) (.int .i64 0) := (HB4.out.block (n0 + 1) (by omega)).trans HTR2.out
    obtain ⟨a1, n1, c1, a2, n2, c2, a3, n3, c3, e1, e2, e3⟩ := graphAt_slices (ownG_at O4)
    subst e1 e2 e3
    obtain ⟨z0, z1, z2, z3, z4, _⟩ := five_cells T4
    obtain ⟨v0, v1, v2, v3, v4, vf⟩ := five_cells TR4
    have g0 := vf 0
    have g1 := vf 1
    have g2 := vf 2
    have g3 := vf 3
    have g4 := vf 4
    have HOW : Hid _ := ownG_base (ownG_ch O4 (five_other (X := w4) (b := n0 + 1) (.slice a1 n1 c1) (.slice a2 n2 c2) (.slice a3 n3 c3) (.int .i64 CR.next) (.int .i64 CR.seed)) (fun x hx e => by have := (ownG_lt O4 x hx).1; rw [List.mem_singleton] at e; omega)) (show n0 ≤ w1.heap.size by omega)
    have HTX : Hid _ := five_sets TR4 (.slice a1 n1 c1) (.slice a2 n2 c2) (.slice a3 n3 c3) (.int .i64 CR.next) (.int .i64 CR.seed)
    have HBX : Hid _ := five_belows B4 (show n0 ≤ n0 + 1 by omega) (.slice a1 n1 c1) (.slice a2 n2 c2) (.slice a3 n3 c3) (.int .i64 CR.next) (.int .i64 CR.seed)
    clear vf O4 T4 B4 TR4 HO4 HT4 HB4 HB2 HTR2
    refine Go.Lib.hid ?_
    go_wp2
    exact bodyPost_ret (res_gr2 rfl rfl rfl HTX.out) rfl ⟨_, _, _, rs, by rw [ERB.out, ERG.out], by rw [ERG.out]; exact HOW.out, HBX.out⟩
end Go.Proofs.Ytdogibjgogcdkab.gr
namespace Go.Proofs.Ytdogibjgogcdkab.gr
open Go.RowKit rows heads
set_option maxRecDepth 100000

/-- Whatever lies as this graph is small. -/
def Small (R : Gr) : Prop := ∀ rs : List MO, rs.map MO.abs = R.objs → gSize rs R ≤ 1048576
theorem small_same {G R : Gr} (ho : R.objs = G.objs) (hr : R.roots.length ≤ G.roots.length) (hm : R.mourned.length ≤ G.mourned.length) (h : ∃ ms : List MO, ms.map MO.abs = G.objs ∧ gSize ms G ≤ 1048576) : Small R := by
  obtain ⟨ms, e, hs⟩ := h
  intro rs er
  have := gSize_of (er.trans ho) e hs
  unfold gSize at this ⊢
  omega
theorem small_zero : Small gr0 := by
  intro rs er
  have e : rs = [] := by simpa [gr0] using er
  subst e
  decide
theorem hR_GCopied (G : Gr) (t f : Int) (h : ∃ ms : List MO, ms.map MO.abs = G.objs ∧ gSize ms G ≤ 1048576) : Small (gCopied G t f).1 := by
  unfold gCopied copyRoot
  split
  · split
    · exact small_same (G := G) rfl (by simp) (Nat.le_refl _) h
    · exact small_same (G := G) rfl (Nat.le_refl _) (Nat.le_refl _) h
  · exact small_zero
theorem hR_GFetched (G : Gr) (t f s : Int) (h : ∃ ms : List MO, ms.map MO.abs = G.objs ∧ gSize ms G ≤ 1048576) : Small (gFetched G t f s).1 := by
  unfold gFetched fetch
  split
  · split
    · exact small_same (G := G) rfl (by simp) (Nat.le_refl _) h
    · exact small_same (G := G) rfl (Nat.le_refl _) (Nat.le_refl _) h
  · exact small_zero
theorem hR_GPut (G : Gr) (x : Int) (e : Rf) (h : ∃ ms : List MO, ms.map MO.abs = G.objs ∧ gSize ms G ≤ 1048576) : Small (gPut G x e).1 := by
  unfold gPut putR
  split
  · split
    · exact small_same (G := G) rfl (by simp) (Nat.le_refl _) h
    · exact small_same (G := G) rfl (Nat.le_refl _) (Nat.le_refl _) h
  · exact small_zero
/-- How many slots these objects have. -/
def slotsOf : List Ob → Nat
  | [] => 0
  | o :: os => o.slots.length + slotsOf os
theorem slotsOf_abs : ∀ ms : List MO, slotsLen ms = slotsOf (ms.map MO.abs)
  | [] => rfl
  | m :: ms => by
    have := slotsOf_abs ms
    simp only [List.map_cons, slotsOf]
    rw [← this]
    rfl
theorem slotsOf_setSlot : ∀ (os : List Ob) (k j : Nat) (e : Rf), slotsOf (setSlot os k j e) = slotsOf os
  | [], _, _, _ => by simp [setSlot]
  | o :: os, 0, j, e => by simp [setSlot, slotsOf]
  | o :: os, k + 1, j, e => by
    have := slotsOf_setSlot os k j e
    simpa [setSlot, slotsOf] using this
theorem hR_GStored (G : Gr) (t s f : Int) (h : ∃ ms : List MO, ms.map MO.abs = G.objs ∧ gSize ms G ≤ 1048576) : Small (gStored G t s f).1 := by
  unfold gStored store
  split
  · split
    · obtain ⟨ms, e, hs⟩ := h
      intro rs er
      have er' : rs.map MO.abs = setSlot G.objs (plc G t) s.toNat (rootAt G f) := er
      have l1 : rs.length = ms.length := by
        have h1 := congrArg List.length er'
        have h2 := congrArg List.length e
        simp only [List.length_map, setSlot, List.length_set] at h1 h2
        omega
      have l2 : slotsLen rs = slotsLen ms := by rw [slotsOf_abs, slotsOf_abs, er', slotsOf_setSlot, e]
      unfold gSize at hs ⊢
      show rs.length + slotsLen rs + G.roots.length + G.mourned.length ≤ _
      omega
    · exact small_same (G := G) rfl (Nat.le_refl _) (Nat.le_refl _) h
  · exact small_zero
end Go.Proofs.Ytdogibjgogcdkab.gr
namespace Go.Proofs.Ytdogibjgogcdkab.gr
open Go.RowKit rows heads
set_option maxRecDepth 100000

structure Right (G : Gr) : Prop where
  head : gHead G = true
  ob : ∀ i, i < G.objs.length → obOk G.objs G.next i = true
  sl : ∀ i, i < G.objs.length → ∀ k, k < (G.objs.getD i obD).slots.length → refOk G.objs ((G.objs.getD i obD).slots.getD k refD) = true
  root : ∀ i, i < 6 → refOk G.objs (G.roots.getD i refD) = true
  mo : ∀ i, i < G.mourned.length → (G.mourned.getD i refD).1 = 2 ∧ refOk G.objs (G.mourned.getD i refD) = true
theorem right_of {G : Gr} (h : gOk G = true) : Right G := by
  unfold gOk at h
  simp only [Bool.and_eq_true, List.all_eq_true, List.mem_range] at h
  obtain ⟨⟨⟨h0, h1⟩, h2⟩, h3⟩ := h
  refine ⟨h0, fun i hi => (h1 i hi).1, fun i hi k hk => ?_, h2, fun i hi => ?_⟩
  · have := (h1 i hi).2
    unfold slOk at this
    rw [List.all_eq_true] at this
    exact this k (List.mem_range.2 hk)
  · have := h3 i hi
    simpa using this
theorem Right.gOk {G : Gr} (h : Right G) : gOk G = true := by
  refine gOk_yes h.head (fun i hi => ?_) h.root (fun i hi => ?_)
  · rw [h.ob i hi, slOk_yes (h.sl i hi)]
    rfl
  · have := h.mo i hi
    rw [this.1, this.2]
    rfl
theorem atI_map (os : List Ob) (id : Int) : atI os id = match (os.map Ob.id).findIdx? (fun o => o == id) with | some i => (i : Int) | none => -1 := by
  unfold atI
  rw [List.findIdx?_map]
  rfl
theorem atI_ids {os os' : List Ob} (h : os.map Ob.id = os'.map Ob.id) (id : Int) : atI os id = atI os' id := by rw [atI_map, atI_map, h]
theorem refOk_ids {os os' : List Ob} (h : os.map Ob.id = os'.map Ob.id) (r : Rf) : refOk os r = refOk os' r := by unfold refOk; rw [atI_ids h]
theorem atI_app {os : List Ob} {id : Int} (h : 0 ≤ atI os id) (ys : List Ob) : atI (os ++ ys) id = atI os id := by
  unfold atI at h ⊢
  rw [List.findIdx?_append]
  cases e : os.findIdx? (fun o => o.id == id) with
  | none => rw [e] at h; simp at h
  | some i => rfl
theorem refOk_app {os : List Ob} {r : Rf} (h : refOk os r = true) (ys : List Ob) : refOk (os ++ ys) r = true := by
  unfold refOk at h ⊢
  split
  · rename_i e; rw [if_pos e] at h; exact h
  · rename_i e
    rw [if_neg e] at h
    split
    · rename_i e'; rw [if_pos e'] at h; exact h
    · rename_i e'
      rw [if_neg e'] at h
      simp only [Bool.and_eq_true, decide_eq_true_eq] at h ⊢
      rw [atI_app h.2]
      exact h
theorem atI_new {os : List Ob} {n : Ob} (h : ∀ m, m < os.length → ¬ (os.getD m obD).id = n.id) : atI (os ++ [n]) n.id = os.length := by
  refine atI_at (by simp) (by simp) (fun m hm => ?_)
  have := h m hm
  rw [List.getD_eq_getElem?_getD, List.getElem?_append_left hm, ← List.getD_eq_getElem?_getD]
  exact this
theorem getD_app_l {os ys : List Ob} {i : Nat} (hi : i < os.length) : (os ++ ys).getD i obD = os.getD i obD := by
  rw [List.getD_eq_getElem?_getD, List.getElem?_append_left hi, ← List.getD_eq_getElem?_getD]
theorem obOk_lt {os : List Ob} {next : Int} {i : Nat} (h : obOk os next i = true) : lastOf os i < (os.getD i obD).id ∧ (os.getD i obD).id < next ∧ (os.getD i obD).fmt ≤ 2 ∧ hok ((os.getD i obD).slots.length : Int) (os.getD i obD).fmt (os.getD i obD).cls (os.getD i obD).hash false false = true := by
  simp only [obOk, Bool.and_eq_true, decide_eq_true_eq] at h
  exact ⟨h.1.1.1, h.1.1.2, h.1.2, h.2⟩
theorem obOk_mk {os : List Ob} {next : Int} {i : Nat} (h : lastOf os i < (os.getD i obD).id ∧ (os.getD i obD).id < next ∧ (os.getD i obD).fmt ≤ 2 ∧ hok ((os.getD i obD).slots.length : Int) (os.getD i obD).fmt (os.getD i obD).cls (os.getD i obD).hash false false = true) : obOk os next i = true := by
  simp only [obOk, Bool.and_eq_true, decide_eq_true_eq]
  exact ⟨⟨⟨h.1, h.2.1⟩, h.2.2.1⟩, h.2.2.2⟩
theorem lastOf_lt {os : List Ob} {next : Int} (h1 : 1 ≤ next) (h : ∀ i, i < os.length → obOk os next i = true) : ∀ i, i ≤ os.length → lastOf os i < next
  | 0, _ => by show (0 : Int) < next; omega
  | i + 1, hi => (obOk_lt (h i (by omega))).2.1
theorem lastOf_app (os ys : List Ob) : ∀ i, i ≤ os.length → lastOf (os ++ ys) i = lastOf os i
  | 0, _ => rfl
  | i + 1, hi => by
    show ((os ++ ys).getD i obD).id = (os.getD i obD).id
    rw [getD_app_l (by omega)]
theorem hok_hash {s f c h : Int} (e : hok s f c 0 false false = true) (hf : f ≤ 2) (h0 : 0 ≤ h) (h1 : h ≤ 65535) : hok s f c h false false = true := by
  have h6 : ¬ f = 6 := by omega
  unfold hok at e ⊢
  rw [if_neg h6] at e ⊢
  simp only [Bool.and_eq_true] at e ⊢
  refine ⟨e.1, ?_⟩
  simp [inR]
  omega
theorem drawn_in (s : Int) : 0 ≤ drawn s ∧ drawn s ≤ 65535 := by unfold drawn; omega
theorem newOk_parts {c f s : Int} (h : newOk c f s = true) : 0 ≤ s ∧ s ≤ 20 ∧ 0 ≤ f ∧ f ≤ 2 ∧ hok s f c 0 false false = true := by
  unfold newOk at h
  simp only [Bool.and_eq_true] at h
  have h1 := hok_true h.2
  have h2 : 0 ≤ f ∧ f ≤ 2 := by simpa [inR] using h.1
  exact ⟨h1.1, h1.2.1, h2.1, h2.2, h.2⟩
theorem made_cases (G : Gr) (x c f s : Int) : made G x c f s = (G, false) ∨ (inR 0 5 x = true ∧ newOk c f s = true ∧ G.objs.length ≠ 200 ∧ G.next ≠ 100000 ∧ made G x c f s = (⟨G.objs ++ [⟨G.next, c, f, drawn G.seed, List.replicate s.toNat refD⟩], G.roots.set x.toNat (2, G.next), G.mourned, G.next + 1, drawn G.seed⟩, true)) := by
  unfold made
  split
  · rename_i h
    simp only [Bool.and_eq_true, decide_eq_true_eq] at h
    exact .inr ⟨h.1.1, h.1.2, h.2.1, h.2.2, rfl⟩
  · exact .inl rfl
theorem getD_set_refs (rs : List Rf) (k i : Nat) (e : Rf) : (rs.set k e).getD i refD = if k = i ∧ i < rs.length then e else rs.getD i refD := by
  rw [List.getD_eq_getElem?_getD, List.getElem?_set, List.getD_eq_getElem?_getD]
  by_cases h : k = i
  · subst h
    by_cases h2 : k < rs.length
    · simp [h2]
    · simp [h2]
  · simp [h]
theorem ids_ne {G : Gr} (h : Right G) {i : Nat} (hi : i < G.objs.length) : ¬ (G.objs.getD i obD).id = G.next := by
  have := (obOk_lt (h.ob i hi)).2.1
  omega
theorem head_parts {G : Gr} (h : gHead G = true) : G.objs.length ≤ 200 ∧ G.roots.length = 6 ∧ G.mourned.length ≤ 40 ∧ 1 ≤ G.next ∧ G.next ≤ 100000 ∧ 0 ≤ G.seed ∧ G.seed ≤ 65535 := by
  simp only [gHead, inR, Bool.and_eq_true, decide_eq_true_eq] at h
  omega
theorem head_mk {G : Gr} (h : G.objs.length ≤ 200 ∧ G.roots.length = 6 ∧ G.mourned.length ≤ 40 ∧ 1 ≤ G.next ∧ G.next ≤ 100000 ∧ 0 ≤ G.seed ∧ G.seed ≤ 65535) : gHead G = true := by
  simp only [gHead, inR, Bool.and_eq_true, decide_eq_true_eq]
  omega
theorem right_root {G : Gr} (h : Right G) (k : Nat) {e : Rf} (he : refOk G.objs e = true) : Right { G with roots := G.roots.set k e } := by
  have hp := head_parts h.head
  refine ⟨head_mk (by simpa using hp), h.ob, h.sl, fun i hi => ?_, h.mo⟩
  show refOk G.objs ((G.roots.set k e).getD i refD) = true
  rw [getD_set_refs]
  split
  · exact he
  · exact h.root i hi
theorem right_made {G : Gr} (h : Right G) (x c f s : Int) : Right (made G x c f s).1 := by
  rcases made_cases G x c f s with e | ⟨hx, hn, hl, hN, e⟩ <;> rw [e]
  · exact h
  have hp := head_parts h.head
  have hx' : 0 ≤ x ∧ x ≤ 5 := by simpa [inR] using hx
  obtain ⟨s0, s1, f0, f1, hk⟩ := newOk_parts hn
  have hd := drawn_in G.seed
  have hnew := atI_new (os := G.objs) (n := ⟨G.next, c, f, drawn G.seed, List.replicate s.toNat refD⟩) (fun m hm => ids_ne h hm)
  refine ⟨head_mk ?_, fun i hi => ?_, fun i hi k hk' => ?_, fun i hi => ?_, fun i hi => ?_⟩
  · simp only [List.length_append, List.length_set, List.length_cons, List.length_nil]
    omega
  · simp only [List.length_append, List.length_cons, List.length_nil] at hi
    by_cases h2 : i < G.objs.length
    · have := obOk_lt (h.ob i h2)
      refine obOk_mk ?_
      show lastOf (G.objs ++ _) i < ((G.objs ++ _).getD i obD).id ∧ ((G.objs ++ _).getD i obD).id < G.next + 1 ∧ ((G.objs ++ _).getD i obD).fmt ≤ 2 ∧ _
      rw [lastOf_app _ _ i (by omega), getD_app_l h2]
      exact ⟨this.1, by omega, this.2.2⟩
    · have h3 : i = G.objs.length := by omega
      subst h3
      refine obOk_mk ?_
      show lastOf (G.objs ++ _) _ < ((G.objs ++ _).getD _ obD).id ∧ ((G.objs ++ _).getD _ obD).id < G.next + 1 ∧ ((G.objs ++ _).getD _ obD).fmt ≤ 2 ∧ _
      rw [lastOf_app _ _ _ (Nat.le_refl _)]
      have := lastOf_lt hp.2.2.2.1 h.ob _ (Nat.le_refl _)
      simp
      refine ⟨this, by omega, by omega, ?_⟩
      have e1 : max s 0 = s := by omega
      rw [e1]
      exact hok_hash hk f1 hd.1 hd.2
  · simp only [List.length_append, List.length_cons, List.length_nil] at hi
    show refOk (G.objs ++ _) (((G.objs ++ _).getD i obD).slots.getD k refD) = true
    by_cases h2 : i < G.objs.length
    · rw [getD_app_l h2]
      refine refOk_app (h.sl i h2 k ?_) _
      have : k < ((G.objs ++ _).getD i obD).slots.length := hk'
      rwa [getD_app_l h2] at this
    · have h3 : i = G.objs.length := by omega
      subst h3
      have e2 : (List.replicate s.toNat refD).getD k refD = refD := by
        rw [List.getD_eq_getElem?_getD, List.getElem?_replicate]
        split <;> rfl
      have e3 : (G.objs ++ [(⟨G.next, c, f, drawn G.seed, List.replicate s.toNat refD⟩ : Ob)]).getD G.objs.length obD = ⟨G.next, c, f, drawn G.seed, List.replicate s.toNat refD⟩ := by simp
      rw [e3]
      show refOk _ ((List.replicate s.toNat refD).getD k refD) = true
      rw [e2]
      rfl
  · show refOk (G.objs ++ _) ((G.roots.set x.toNat (2, G.next)).getD i refD) = true
    rw [getD_set_refs]
    split
    · unfold refOk
      simp only [show ¬ (2 : Int) = 0 by decide, show ¬ (2 : Int) = 1 by decide, if_false]
      have e1 : atI (G.objs ++ [⟨G.next, c, f, drawn G.seed, List.replicate s.toNat refD⟩]) G.next = G.objs.length := hnew
      rw [e1]
      simp
    · exact refOk_app (h.root i hi) _
  · have := h.mo i hi
    exact ⟨this.1, refOk_app this.2 _⟩
theorem slotIn_parts {G : Gr} (h : Right G) {x s : Int} (hs : slotIn G x s = true) : 0 ≤ x ∧ x ≤ 5 ∧ (rootAt G x).1 = 2 ∧ plc G x < G.objs.length ∧ 0 ≤ s ∧ s.toNat < (G.objs.getD (plc G x) obD).slots.length := by
  simp only [slotIn, Bool.and_eq_true, decide_eq_true_eq, beq_iff_eq] at hs
  obtain ⟨⟨h1, h2⟩, h3, h4⟩ := hs
  have h1' : 0 ≤ x ∧ x ≤ 5 := by simpa [inR] using h1
  have := (leads_plc h.gOk (x := x) (by unfold leads; rw [h1, h2]; rfl)).2
  exact ⟨h1'.1, h1'.2, h2, this, h3, by omega⟩
theorem right_fetch {G : Gr} (h : Right G) (t f s : Int) : Right (fetch G t f s).1 := by
  unfold fetch
  split
  · rename_i hc
    rw [Bool.and_eq_true] at hc
    have p := slotIn_parts h hc.2
    exact right_root h _ (h.sl _ p.2.2.2.1 _ p.2.2.2.2.2)
  · exact h
theorem right_copyRoot {G : Gr} (h : Right G) (t f : Int) : Right (copyRoot G t f).1 := by
  unfold copyRoot
  split
  · rename_i hc
    rw [Bool.and_eq_true] at hc
    have p : 0 ≤ f ∧ f ≤ 5 := by simpa [inR] using hc.2
    exact right_root h _ (h.root _ (by omega))
  · exact h
theorem right_putR {G : Gr} (h : Right G) (x : Int) (e : Rf) : Right (putR G x e).1 := by
  unfold putR
  split
  · rename_i hc
    simp only [Bool.and_eq_true] at hc
    exact right_root h _ hc.2.2
  · exact h
theorem setSlot_ids (os : List Ob) (k j : Nat) (e : Rf) : (setSlot os k j e).map Ob.id = os.map Ob.id := by
  unfold setSlot
  by_cases h : k < os.length
  · refine List.ext_getElem (by simp) (fun i h1 h2 => ?_)
    simp only [List.getElem_map, List.getElem_set]
    split
    · rename_i e1
      subst e1
      rw [List.getD_eq_getElem?_getD, List.getElem?_eq_getElem h]
      rfl
    · rfl
  · rw [List.set_eq_of_length_le (by omega)]
theorem setSlot_getD {os : List Ob} {k : Nat} (hk : k < os.length) (j : Nat) (e : Rf) (i : Nat) : (setSlot os k j e).getD i obD = if i = k then { os.getD k obD with slots := (os.getD k obD).slots.set j e } else os.getD i obD := by
  unfold setSlot
  rw [List.getD_eq_getElem?_getD, List.getElem?_set]
  by_cases h : k = i
  · subst h
    simp [hk]
  · have h' : ¬ i = k := fun e => h e.symm
    simp only [h, h', if_false]
    rw [← List.getD_eq_getElem?_getD]
theorem lastOf_setSlot {os : List Ob} {k : Nat} (hk : k < os.length) (j : Nat) (e : Rf) : ∀ i, lastOf (setSlot os k j e) i = lastOf os i
  | 0 => rfl
  | i + 1 => by
    show ((setSlot os k j e).getD i obD).id = (os.getD i obD).id
    rw [setSlot_getD hk]
    split
    · rename_i e1; subst e1; rfl
    · rfl
theorem right_setSlot {G : Gr} (h : Right G) {k : Nat} (hk : k < G.objs.length) (j : Nat) {e : Rf} (he : refOk G.objs e = true) : Right { G with objs := setSlot G.objs k j e } := by
  have hp := head_parts h.head
  have hids := setSlot_ids G.objs k j e
  have hlen : (setSlot G.objs k j e).length = G.objs.length := by simp [setSlot]
  refine ⟨head_mk (by simpa [hlen] using hp), fun i hi => obOk_mk ?_, fun i hi n hn => ?_, fun i hi => ?_, fun i hi => ?_⟩
  · have hi' : i < G.objs.length := by rw [← hlen]; exact hi
    have := obOk_lt (h.ob i hi')
    show lastOf (setSlot G.objs k j e) i < ((setSlot G.objs k j e).getD i obD).id ∧ ((setSlot G.objs k j e).getD i obD).id < G.next ∧ ((setSlot G.objs k j e).getD i obD).fmt ≤ 2 ∧ hok (((setSlot G.objs k j e).getD i obD).slots.length : Int) ((setSlot G.objs k j e).getD i obD).fmt ((setSlot G.objs k j e).getD i obD).cls ((setSlot G.objs k j e).getD i obD).hash false false = true
    rw [lastOf_setSlot hk, setSlot_getD hk]
    split
    · rename_i e1
      subst e1
      simpa using this
    · exact this
  · have hi' : i < G.objs.length := by rw [← hlen]; exact hi
    have hn' : n < ((setSlot G.objs k j e).getD i obD).slots.length := hn
    show refOk (setSlot G.objs k j e) (((setSlot G.objs k j e).getD i obD).slots.getD n refD) = true
    rw [refOk_ids hids]
    rw [setSlot_getD hk] at hn' ⊢
    split at hn'
    · rename_i e1
      subst e1
      rw [if_pos rfl]
      rw [getD_set_refs]
      split
      · exact he
      · exact h.sl _ hi' n (by simpa using hn')
    · rename_i e1
      rw [if_neg e1]
      exact h.sl i hi' n hn'
  · show refOk (setSlot G.objs k j e) (G.roots.getD i refD) = true
    rw [refOk_ids hids]
    exact h.root i hi
  · have := h.mo i hi
    refine ⟨this.1, ?_⟩
    show refOk (setSlot G.objs k j e) (G.mourned.getD i refD) = true
    rw [refOk_ids hids]
    exact this.2
theorem right_store {G : Gr} (h : Right G) (t s f : Int) : Right (store G t s f).1 := by
  unfold store
  split
  · rename_i hc
    rw [Bool.and_eq_true] at hc
    have p := slotIn_parts h hc.2
    have pf : 0 ≤ f ∧ f ≤ 5 := by simpa [inR] using hc.1
    exact right_setSlot h p.2.2.2.1 _ (h.root _ (by omega))
  · exact h
/-- What was stored is fetched, and nothing is changed thereby. -/
theorem fetch_store {G : Gr} (h : Right G) {t s f : Int} (hs : (store G t s f).2 = true) : fetch (store G t s f).1 f t s = ((store G t s f).1, true) := by
  have hc : (inR 0 5 f && slotIn G t s) = true := by
    cases d : (inR 0 5 f && slotIn G t s)
    · unfold store at hs; rw [d] at hs; cases hs
    · rfl
  have e : store G t s f = ({ G with objs := setSlot G.objs (plc G t) s.toNat (rootAt G f) }, true) := by unfold store; rw [if_pos hc]
  rw [e]
  rw [Bool.and_eq_true] at hc
  have p := slotIn_parts h hc.2
  have pf : 0 ≤ f ∧ f ≤ 5 := by simpa [inR] using hc.1
  have ep : plc { G with objs := setSlot G.objs (plc G t) s.toNat (rootAt G f) } t = plc G t := by
    unfold plc
    show (atI (setSlot G.objs _ _ _) (rootAt G t).2).toNat = _
    rw [atI_ids (setSlot_ids _ _ _ _)]
  have eg : (setSlot G.objs (plc G t) s.toNat (rootAt G f)).getD (plc G t) obD = { G.objs.getD (plc G t) obD with slots := (G.objs.getD (plc G t) obD).slots.set s.toNat (rootAt G f) } := by
    rw [setSlot_getD p.2.2.2.1, if_pos rfl]
  have hsl : slotIn { G with objs := setSlot G.objs (plc G t) s.toNat (rootAt G f) } t s = true := by
    unfold slotIn
    rw [ep]
    show (inR 0 5 t && (rootAt G t).1 == 2 && (decide (0 ≤ s) && decide (s < ((setSlot G.objs (plc G t) s.toNat (rootAt G f)).getD (plc G t) obD).slots.length))) = true
    rw [eg]
    have := hc.2
    unfold slotIn at this
    simpa using this
  unfold fetch
  rw [hc.1, hsl, ep]
  show (({ objs := setSlot G.objs (plc G t) s.toNat (rootAt G f), roots := G.roots.set f.toNat (((setSlot G.objs (plc G t) s.toNat (rootAt G f)).getD (plc G t) obD).slots.getD s.toNat refD), mourned := G.mourned, next := G.next, seed := G.seed } : Gr), true) = _
  rw [eg]
  have e3 : ((G.objs.getD (plc G t) obD).slots.set s.toNat (rootAt G f)).getD s.toNat refD = rootAt G f := by
    rw [getD_set_refs, if_pos ⟨rfl, p.2.2.2.2.2⟩]
  have e4 : G.roots.set f.toNat (rootAt G f) = G.roots := by
    have hl := (head_parts h.head).2.1
    have hf : f.toNat < G.roots.length := by omega
    unfold rootAt
    rw [List.getD_eq_getElem?_getD, List.getElem?_eq_getElem hf]
    exact List.set_getElem_self hf
  simp only [e3, e4]
/-- Right graphs are small. -/
theorem slotsOf_le : ∀ (os : List Ob), (∀ i, i < os.length → (os.getD i obD).slots.length ≤ 20) → slotsOf os ≤ 20 * os.length
  | [], _ => by simp [slotsOf]
  | o :: os, h => by
    have h0 := h 0 (by simp)
    have := slotsOf_le os (fun i hi => by have := h (i + 1) (by simp; omega); simpa using this)
    simp only [slotsOf, List.length_cons]
    simp at h0
    omega
theorem right_small {G : Gr} (h : Right G) : Small G := by
  intro rs er
  have hp := head_parts h.head
  have l1 : rs.length = G.objs.length := by rw [← er]; simp
  have l2 : slotsLen rs = slotsOf G.objs := by rw [slotsOf_abs, er]
  have l3 := slotsOf_le G.objs (fun i hi => by have := (hok_true (obOk_lt (h.ob i hi)).2.2.2).2.1; omega)
  unfold gSize
  omega
theorem hR_GMade (G : Gr) (x c f s : Int) (_ : ∃ ms : List MO, ms.map MO.abs = G.objs ∧ gSize ms G ≤ 1048576) : Small (gMade G x c f s).1 := by
  unfold gMade
  split
  · rename_i hk
    exact right_small (right_made (right_of hk) x c f s)
  · exact small_zero
/-- The new one is at its root. -/
theorem hash_made {G : Gr} (h : Right G) {x c f s : Int} (hm : (made G x c f s).2 = true) : gHash (made G x c f s).1 x = drawn G.seed := by
  rcases made_cases G x c f s with e | ⟨hx, hn, hl, hN, e⟩
  · rw [e] at hm; cases hm
  have hr := right_made h x c f s
  have hp := head_parts h.head
  have hx' : 0 ≤ x ∧ x ≤ 5 := by simpa [inR] using hx
  have hnew := atI_new (os := G.objs) (n := ⟨G.next, c, f, drawn G.seed, List.replicate s.toNat refD⟩) (fun m hm => ids_ne h hm)
  rw [e] at hr ⊢
  have e1 : rootAt { objs := G.objs ++ [⟨G.next, c, f, drawn G.seed, List.replicate s.toNat refD⟩], roots := G.roots.set x.toNat (2, G.next), mourned := G.mourned, next := G.next + 1, seed := drawn G.seed : Gr } x = (2, G.next) := by
    show (G.roots.set x.toNat (2, G.next)).getD x.toNat refD = _
    rw [getD_set_refs, if_pos ⟨rfl, by omega⟩]
  unfold gHash
  rw [if_pos hr.gOk]
  unfold hashAt
  rw [e1, hx, if_pos (show (true && ((2, G.next) : Rf).1 == 2) = true from rfl)]
  have e2 : atI (G.objs ++ [⟨G.next, c, f, drawn G.seed, List.replicate s.toNat refD⟩]) G.next = G.objs.length := hnew
  show ((G.objs ++ [_]).getD (atI (G.objs ++ [_]) G.next).toNat obD).hash = _
  rw [e2]
  simp
end Go.Proofs.Ytdogibjgogcdkab.gr
namespace Go.Proofs.Ytdogibjgogcdkab.gr
open Go.RowKit rows heads
set_option maxRecDepth 100000
set_option linter.unusedVariables false

theorem below_drewN {base : Nat} {w W : World} (h : Below base w W) (n : Nat) : Below base w (W.drewN n) := ⟨h.os, h.tape, h.output, h.size, h.block⟩

theorem cell_lt6 {w : World} {b k : Nat} {v : Value} (h : w.cell? ⟨b, k, none⟩ = some v) : b < w.heap.size := by
  rcases Nat.lt_or_ge b w.heap.size with h' | h'
  · exact h'
  · simp [World.cell?, Array.getElem?_eq_none h'] at h
set_option maxHeartbeats 8000000 in
theorem likeGraph_same {w : World} {o r m o' r' m' : Value} {ms ns : List MO} {G : Gr} (h : GraphAt w o r m ms G) (h' : GraphAt w o' r' m' ns G) (hs : gSize ms G ≤ 1048576) :
    Calls Try.prog 38 #[gv o r m G.next G.seed, gv o' r' m' G.next G.seed] w fun e w' => e = .returned (.bool true) ∧ Below w.heap.size w w' := by
  have hsl := gSize_slots hs
  have hsz : G.roots.length ≤ 1048576 ∧ G.mourned.length ≤ 1048576 ∧ ms.length ≤ 1048576 := by unfold gSize at hs; omega
  obtain ⟨o1, o2, o3, r1, r2, r3, m1, m2, m3, e1, e2, e3⟩ := graphAt_slices h
  obtain ⟨p1, p2, p3, s1, s2, s3, t1, t2, t3, e4, e5, e6⟩ := graphAt_slices h'
  subst e1 e2 e3 e4 e5 e6
  have L1 := graphAt_len h
  have L2 := graphAt_len h'
  have eo : o2 = ms.length := by obtain ⟨a0, c0, e, _⟩ := h.2.1.1; injection e
  have ep : p2 = ms.length := by obtain ⟨a0, c0, e, _⟩ := h'.2.1.1; injection e with _ e _; omega
  subst eo ep
  obtain ⟨X, hX⟩ : ∃ X, X = (w.alloc (gb (.slice o1 ms.length o3) (.slice r1 r2 r3) (.slice m1 m2 m3) G.next G.seed)).alloc (gb (.slice p1 ms.length p3) (.slice s1 s2 s3) (.slice t1 t2 t3) G.next G.seed) := ⟨_, rfl⟩
  have BX : Below w.heap.size w X := by rw [hX]; exact ((Below.refl _ w).alloc (Nat.le_refl _) _).alloc (by simp) _
  have TX : Five X w.heap.size 55 (.slice o1 ms.length o3) (.slice r1 r2 r3) (.slice m1 m2 m3) (.int .i64 G.next) (.int .i64 G.seed) := by rw [hX]; exact five_below (five_new w _ _ _ _ _ _) ((Below.refl _ _).alloc (Nat.le_refl _) _)
  have UX : Five X (w.heap.size + 1) 55 (.slice p1 ms.length p3) (.slice s1 s2 s3) (.slice t1 t2 t3) (.int .i64 G.next) (.int .i64 G.seed) := by
    have := five_new (w.alloc (gb (.slice o1 ms.length o3) (.slice r1 r2 r3) (.slice m1 m2 m3) G.next G.seed)) 55 (.slice p1 ms.length p3) (.slice s1 s2 s3) (.slice t1 t2 t3) (.int .i64 G.next) (.int .i64 G.seed)
    rw [hX]
    rw [show (w.alloc (gb (.slice o1 ms.length o3) (.slice r1 r2 r3) (.slice m1 m2 m3) G.next G.seed)).heap.size = w.heap.size + 1 by simp] at this
    exact this
  have HG : Hid _ := h
  have HG' : Hid _ := h'
  have HBX : Hid _ := BX
  have HTX : Hid _ := TX
  have HUX : Hid _ := UX
  have HLR : Hid (∀ n, _) := fun n => likeRefs_same (w := X.drewN n) (graphAt_below h (below_drewN BX n)).2.2.1 (graphAt_below h' (below_drewN BX n)).2.2.1 hsz.1
  have HLM : Hid (∀ n, _) := fun n => likeRefs_same (w := X.drewN n) (graphAt_below h (below_drewN BX n)).2.2.2 (graphAt_below h' (below_drewN BX n)).2.2.2 hsz.2.1
  have LR0 := likeRefs_same (w := X) (graphAt_below h BX).2.2.1 (graphAt_below h' BX).2.2.1 hsz.1
  obtain ⟨u0, u1, u2, u3, u4, _⟩ := five_cells TX
  obtain ⟨v0, v1, v2, v3, v4, _⟩ := five_cells UX
  have HSL : Hid _ := hsl
  have HL1 : Hid _ := L1
  have HL2 : Hid _ := L2
  have hml := hsz.2.2
  have en : (G.next != G.next) = false := by simp
  have es : (G.seed != G.seed) = false := by simp
  have el : (((ms.length : Int)) != (ms.length : Int)) = false := by simp
  clear h h' BX TX UX hsl L1 L2 hsz
  go_enter Try.func38, Try.ntmps38
  go_wp2_with fail
  rw [← hX]
  clear hX
  refine LR0.mono ?_
  rintro e w1 ⟨rfl, n1, rfl⟩
  go_wp2_with fail
  refine (HLM.out n1).mono ?_
  rintro e w2 ⟨rfl, n2, rfl⟩
  clear LR0 HLR HLM
  go_wp2_with fail
  go_loopw [5] (fun p wr => ∃ k : Nat, k ≤ ms.length ∧ p = .int .i64 (k : Int) ∧ Hid (Below X.heap.size X wr)) (fun p _ => ms.length - (intOf p).toNat)
  case atStart => exact ⟨0, Nat.zero_le _, rfl, below_drewN (Below.refl X.heap.size X) (n1 + n2)⟩
  case round =>
    obtain ⟨k, hk, rfl, HB⟩ := hrel
    obtain ⟨f0, _, _, _, _, _⟩ := five_cells (five_below HTX.out HB.out)
    obtain ⟨g0, _, _, _, _, _⟩ := five_cells (five_below HUX.out HB.out)
    by_cases hlt : k < ms.length
    · have GA := graphAt_below HG.out (HBX.out.trans (HB.out.mono HBX.out.size))
      have GA' := graphAt_below HG'.out (HBX.out.trans (HB.out.mono HBX.out.size))
      have lns : ns.length = ms.length := HL2.out.trans HL1.out.symm
      obtain ⟨a0, c0, e, _, _, _, hc⟩ := GA.2.1.1
      injection e with e1 e2 e3
      subst e1 e3
      obtain ⟨b, off, rfl, hb, hcc⟩ := hc (by omega)
      obtain ⟨x0, x1, x2, x3, x4⟩ := hcc k hlt
      obtain ⟨a0', c0', e', _, _, _, hc'⟩ := GA'.2.1.1
      injection e' with e1 e2 e3
      subst e1 e3
      obtain ⟨b', off', rfl, hb', hcc'⟩ := hc' (by omega)
      obtain ⟨y0, y1, y2, y3, y4⟩ := hcc' k (by omega)
      have ab := graphAt_get HG.out k
      have ab' := graphAt_get HG'.out k
      have RA := GA.2.1.2 _ (mem_getD (ms := ms) (i := k) hlt)
      have RA' := GA'.2.1.2 _ (mem_getD (ms := ns) (i := k) (by omega))
      have sl := HSL.out _ (mem_getD (ms := ms) (i := k) hlt)
      have ei : (ns.getD k moD).id = (ms.getD k moD).id := congrArg Ob.id (ab'.trans ab.symm)
      have ec : (ns.getD k moD).cls = (ms.getD k moD).cls := congrArg Ob.cls (ab'.trans ab.symm)
      have ef : (ns.getD k moD).fmt = (ms.getD k moD).fmt := congrArg Ob.fmt (ab'.trans ab.symm)
      have eh : (ns.getD k moD).hash = (ms.getD k moD).hash := congrArg Ob.hash (ab'.trans ab.symm)
      have ess : (ns.getD k moD).slots = (ms.getD k moD).slots := congrArg Ob.slots (ab'.trans ab.symm)
      rw [ei] at y0
      rw [ec] at y1
      rw [ef] at y2
      rw [eh] at y3
      rw [ess] at RA'
      obtain ⟨sa, sn, sc, hsv⟩ := refs_slice RA
      obtain ⟨sa', sn', sc', hsv'⟩ := refs_slice RA'
      rw [hsv] at x4 RA
      rw [hsv'] at y4 RA'
      have hlt' : (k : Int) < (ms.length : Int) := by omega
      generalize (ms.getD k moD).id = xi at *
      generalize (ms.getD k moD).cls = xc at *
      generalize (ms.getD k moD).fmt = xf at *
      generalize (ms.getD k moD).hash = xh at *
      generalize (ms.getD k moD).slots = xs at *
      obtain ⟨Y, hY⟩ : ∃ Y, Y = (wr.alloc (.cells #[.int .i64 xi, .int .i64 xc, .int .i64 xf, .int .i64 xh, .slice sa sn sc] 72)).alloc (.cells #[.int .i64 xi, .int .i64 xc, .int .i64 xf, .int .i64 xh, .slice sa' sn' sc'] 72) := ⟨_, rfl⟩
      have BY : Below wr.heap.size wr Y := by rw [hY]; exact ((Below.refl _ _).alloc (Nat.le_refl _) _).alloc (by simp) _
      have BW : Below wr.heap.size wr (wr.alloc (.cells #[.int .i64 xi, .int .i64 xc, .int .i64 xf, .int .i64 xh, .slice sa sn sc] 72)) := (Below.refl _ _).alloc (Nat.le_refl _) _
      have LRY := likeRefs_same (w := Y) (refsAt_below RA BY) (refsAt_below RA' BY) sl
      have g0' := (BW.cell (p := ⟨w.heap.size + 1, 0, none⟩) (cell_lt6 g0)).trans g0
      have z0 := (BW.cell (p := ⟨b', off' + k * 5, none⟩) (cell_lt6 y0)).trans y0
      have z1 := (BW.cell (p := ⟨b', off' + k * 5 + 1, none⟩) (cell_lt6 y1)).trans y1
      have z2 := (BW.cell (p := ⟨b', off' + k * 5 + 2, none⟩) (cell_lt6 y2)).trans y2
      have z3 := (BW.cell (p := ⟨b', off' + k * 5 + 3, none⟩) (cell_lt6 y3)).trans y3
      have z4 := (BW.cell (p := ⟨b', off' + k * 5 + 4, none⟩) (cell_lt6 y4)).trans y4
      have k1 : (xi != xi) = false := by simp
      have k2 : (xc != xc) = false := by simp
      have k3 : (xf != xf) = false := by simp
      have k4 : (xh != xh) = false := by simp
      have HBF : Hid _ := HB.out.trans (BY.mono HB.out.size)
      clear GA GA' hc hcc hc' hcc' ab ab' ei ec ef eh ess RA RA' BY BW HB HG HG' HBX HTX HUX HSL lns hsv hsv' e2
      go_wp2_with (go_at_call 107; rw [← hY]; refine LRY.mono ?_; rintro e w9 ⟨rfl, n9, rfl⟩)
      rw [hY] at HBF
      exact ⟨⟨k + 1, by omega, by go_num, below_drewN HBF.out _⟩, by simp [intOf]; omega⟩
    · have hlt' : ¬ (k : Int) < (ms.length : Int) := by omega
      have HBF : Hid _ := HBX.out.trans (HB.out.mono HBX.out.size)
      clear HG HG' HB HBX HTX HUX
      go_wp2
      go_ret
      exact ⟨rfl, HBF.out⟩
end Go.Proofs.Ytdogibjgogcdkab.gr
namespace Go.Proofs.Ytdogibjgogcdkab.gr
open Go Go.RowKit

/-- The worlds that grow out of one. -/
def Ext (n : Nat) (w : World) : Type := { w' : World // Below n w w' }
def Ext.to {n : Nat} {w : World} (x : Ext n w) : World := x.1
theorem Ext.below {n : Nat} {w : World} (x : Ext n w) : Below n w x.to := x.2
theorem Ext.of {n : Nat} {w w' : World} (h : Below n w w') : ∃ x : Ext n w, w' = x.to := ⟨⟨w', h⟩, rfl⟩
theorem region_grow {P : Program} {id n : Nat} {Q : Exit → Act → World → Prop} {a : Act} {w : World} {l : List Oper} (hm : P.follows .mixedOrders = true) (hB : Region.lexB .any l.toArray = true)
    (h : wpQuiet P l.toArray (fun w' => ∃ x : Ext n w, w' = x.to) (fun a' => ∀ w', (∃ x : Ext n w, w' = x.to) → Q .normal a' w') l a) : (Code.region id l.toArray true).wp P Q a w :=
  wp_region_quiet (C := fun w' => ∃ x : Ext n w, w' = x.to) hm hB (Ext.of (Below.refl n w).drew) (by simpa using h)
theorem calls_grow {P : Program} {f : FuncId} {args : Array Value} {n : Nat} {w : World} {x : Ext n w} {v : Value} (hn : n ≤ w.heap.size)
    (h : Calls P f args x.to fun e w' => e = .returned v ∧ Below x.to.heap.size x.to w') : Calls P f args x.to fun e w'' => e = .returned v ∧ ∃ y : Ext n w, w'' = y.to :=
  h.mono fun _ _ ⟨he, hb⟩ => ⟨he, Ext.of (x.below.trans (hb.mono (Nat.le_trans hn x.below.size)))⟩
end Go.Proofs.Ytdogibjgogcdkab.gr
