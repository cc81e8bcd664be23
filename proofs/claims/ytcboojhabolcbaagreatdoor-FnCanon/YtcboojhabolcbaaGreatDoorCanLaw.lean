/-
  The walk of the law FnCanon, given the draws.
  Made from the template CanLaw.
-/
import Derived.Test.YtcboojhabolcbaaGreatDoorGraphIGPut
import Derived.Test.YtcboojhabolcbaaGreatDoorGraphOGPut
import Derived.Test.YtcboojhabolcbaaGreatDoorM13
import Derived.Test.YtcboojhabolcbaaGreatDoorGraphIAt
import Derived.Test.YtcboojhabolcbaaGreatDoorM8
import Derived.Test.YtcboojhabolcbaaGreatDoorLikeG
import Derived.Test.YtcboojhabolcbaaGreatDoorCanI5
import Derived.Test.YtcboojhabolcbaaGreatDoorCanS7
import Derived.Test.YtcboojhabolcbaaGreatDoorCanH
import Derived.Test.YtcboojhabolcbaaGreatDoorDrawN1
import Derived.Test.YtcboojhabolcbaaGreatDoorM2
import Derived.Laws.Strings
import Derived.Deep.Cut
import Derived.Deep.CutRange
import Derived.Deep.Quiet
import Derived.BigQuiet
namespace Go.Proofs.YtcboojhabolcbaaGreatDoor.gr
open Go.RowKit rows heads region draw
set_option maxRecDepth 100000
set_option linter.unusedVariables false
set_option linter.unusedSimpArgs false

/-- A graph in its box. -/
def Ax (V : World) (P : Nat) (o r m : Value) (ms : List MO) (G : Gr) : Prop := (V.cell? ⟨P, 0, none⟩ = some o ∧ V.cell? ⟨P, 1, none⟩ = some r ∧ V.cell? ⟨P, 2, none⟩ = some m ∧ V.cell? ⟨P, 3, none⟩ = some (.int .i64 G.next) ∧ V.cell? ⟨P, 4, none⟩ = some (.int .i64 G.seed)) ∧ GraphAt V o r m ms G
theorem keep_to {Φ : World → Prop} {W W' : World} (h : ∀ V, Below W.heap.size W V → Φ V) (q : Below W.heap.size W W') : ∀ V, Below W'.heap.size W' V → Φ V := fun V hV => h V (q.trans (hV.mono q.size))
theorem keep_box {Φ : World → Prop} {W : World} (h : ∀ V, Below W.heap.size W V → Φ V) {o r m : Value} {ms : List MO} {G : Gr} (A : GraphAt W o r m ms G) : ∀ V, Below (W.alloc (gb o r m G.next G.seed)).heap.size (W.alloc (gb o r m G.next G.seed)) V → Φ V ∧ Ax V W.heap.size o r m ms G := fun V hV => by
  have B : Below W.heap.size W (W.alloc (gb o r m G.next G.seed)) := (Below.refl _ _).alloc (Nat.le_refl _) _
  have q := B.trans (hV.mono B.size)
  obtain ⟨z0, z1, z2, z3, z4, _⟩ := five_cells (five_below (five_new W 27 o r m (.int .i64 G.next) (.int .i64 G.seed)) hV)
  exact ⟨h V q, ⟨z0, z1, z2, z3, z4⟩, graphAt_below A q⟩
/-- A ref in its box. -/
theorem keep_ref {Φ : World → Prop} {W : World} (h : ∀ V, Below W.heap.size W V → Φ V) (f : Rf) : ∀ V, Below (W.alloc (rb f)).heap.size (W.alloc (rb f)) V → Φ V ∧ (V.cell? ⟨W.heap.size, 0, none⟩ = some (.int .i64 f.1) ∧ V.cell? ⟨W.heap.size, 1, none⟩ = some (.int .i64 f.2)) := fun V hV => by
  have B : Below W.heap.size W (W.alloc (rb f)) := (Below.refl _ _).alloc (Nat.le_refl _) _
  have q := B.trans (hV.mono B.size)
  have T : RfAt V W.heap.size f := (hV.block _ (by simp)).trans (rfAt_new W f)
  obtain ⟨z0, z1, _⟩ := rfAt_cells T
  exact ⟨h V q, z0, z1⟩
theorem refs_cell {V : World} {a : Option Addr} {n c : Nat} {es : List Rf} (h : RefsAt V (.slice a n c) es) {i : Nat} (hi : i < es.length) : ∃ b off, a = some ⟨b, off, none⟩ ∧ V.cell? ⟨b, off + i * 2, none⟩ = some (.int .i64 (es.getD i refD).1) ∧ V.cell? ⟨b, off + i * 2 + 1, none⟩ = some (.int .i64 (es.getD i refD).2) := by
  obtain ⟨a', c', e, _, _, _, hc⟩ := h
  injection e with e1 e2 e3
  subst e1 e2 e3
  obtain ⟨b, off, e, hb, hcc⟩ := hc (by omega)
  exact ⟨b, off, e, hcc i hi⟩
/-- Where a copied root was copied to, and from. -/
theorem copied_told {G : Gr} {x y : Int} {R : Gr × Bool} (h : gCopied G x y = R) (b : R.2 = true) : ∃ n m : Nat, n < 6 ∧ m < 6 ∧ x = n ∧ y = m ∧ R.1.roots.length = 6 ∧ G.roots.length = 6 ∧ R.1.roots.getD n refD = G.roots.getD m refD := by
  unfold gCopied at h
  cases ok : gOk G
  · rw [ok] at h
    simp at h
    rw [← h] at b
    cases b
  · rw [ok, if_pos rfl] at h
    unfold copyRoot at h
    have l6 := (gOk_parts ok).1
    by_cases hc : (inR 0 5 x && inR 0 5 y) = true
    · rw [if_pos hc] at h
      simp only [Bool.and_eq_true] at hc
      obtain ⟨x0, x1⟩ := inR_true hc.1
      obtain ⟨y0, y1⟩ := inR_true hc.2
      obtain ⟨n, rfl⟩ := Int.eq_ofNat_of_zero_le x0
      obtain ⟨m, rfl⟩ := Int.eq_ofNat_of_zero_le y0
      subst h
      refine ⟨n, m, by omega, by omega, rfl, rfl, by simpa using l6, l6, ?_⟩
      show (G.roots.set (n : Int).toNat (rootAt G m)).getD n refD = _
      rw [getD_set_refs, if_pos ⟨by simp, by omega⟩]
      rfl
    · rw [if_neg hc] at h
      rw [← h] at b
      cases b
theorem last_pos {G : Gr} (h : Right G) : ∀ i, i ≤ G.objs.length → 0 ≤ lastOf G.objs i
  | 0, _ => Int.le_refl 0
  | i + 1, hi => by
    have h1 := last_pos h i (by omega)
    have h2 := (obOk_lt (h.ob i (by omega))).1
    show 0 ≤ (G.objs.getD i obD).id
    omega
theorem ref_bound {G : Gr} (h : Right G) {r : Rf} (hr : refOk G.objs r = true) (e : r.1 = 2) : 0 ≤ r.2 ∧ r.2 ≤ 1000000 := by
  have h0 := refOk_lead hr e
  obtain ⟨hi, he⟩ := atI_is h0
  obtain ⟨q1, q2, _⟩ := obOk_lt (h.ob _ hi)
  obtain ⟨_, _, _, p4, p5, _, _⟩ := head_parts h.head
  rw [he] at q1 q2
  have : 0 ≤ lastOf G.objs (atI G.objs r.2).toNat := by
    exact last_pos h _ (by omega)
  omega
/-- The moved objects as far as they are laid. -/
def zO (n : Int) (G : Gr) (k : Nat) : Gr := ⟨(G.objs.take k).map (shOb n), [], [], G.next + n + 5, G.seed⟩
theorem zO_zero (W : World) (base : Nat) (n : Int) (G : Gr) : OwnG W base (.slice none 0 0) (.slice none 0 0) (.slice none 0 0) [] (zO n G 0) := ⟨by simp [zO], ownO_nil W base, ownR_nil W base, ownR_nil W base, by simp [gblk, blk, blks, Value.ownBlock]⟩
theorem zO_next {n : Int} {G : Gr} {k : Nat} (hk : k < G.objs.length) {x : Ob} (h : shOb n (G.objs.getD k obD) = x) : ({ zO n G k with objs := (zO n G k).objs ++ [x] } : Gr) = zO n G (k + 1) := by
  have et : (G.objs.take k).map (shOb n) ++ [x] = (G.objs.take (k + 1)).map (shOb n) := by
    rw [take_one (d := obD) hk, List.map_append, ← h]
    rfl
  show (⟨(G.objs.take k).map (shOb n) ++ [x], [], [], G.next + n + 5, G.seed⟩ : Gr) = ⟨(G.objs.take (k + 1)).map (shOb n), [], [], G.next + n + 5, G.seed⟩
  rw [et]
theorem grown_row {W wr W9 w10 : World} {B : Nat} {S : List Nat} (hg : W.grownBy wr (some B)) (h9 : Below wr.heap.size wr W9) (C : Ch S W9 w10) (hS : ∀ k ∈ S, W.heap.size ≤ k) (v : Value) (j : Nat) : W.grownBy (w10.setCell ⟨B, j, none⟩ v) (some B) := by
  have C1 := one_ch w10 B j v
  refine ⟨C1.os.trans (C.os.trans (h9.os.trans hg.os)), C1.tape.trans (C.tape.trans (h9.tape.trans hg.tape)), C1.output.trans (C.output.trans (h9.output.trans hg.output)), Nat.le_trans hg.size (Nat.le_trans h9.size (Nat.le_trans C.size C1.size)), fun k hk hne => ?_⟩
  have s1 := hg.size
  have s2 := h9.size
  have s3 := C.size
  exact (C1.block k (by omega) (fun e => hne (by rw [List.mem_singleton.1 e]))).trans ((C.block k (by omega) (fun e => by have := hS k e; omega)).trans ((h9.block k (by omega)).trans (hg.block k hk hne)))
theorem own_kept {W w' : World} {B q base n c : Nat} {es : List Rf} (h : OwnR W base (.slice (some ⟨q, 0, none⟩) n c) es) (hg : W.grownBy w' (some B)) (hq : q ≠ B) : OwnR w' base (.slice (some ⟨q, 0, none⟩) n c) es :=
  World.ownsRow.kept h hg (.inr (fun e => hq (by injection e)))
theorem toList_other7 {a b : ByteArray} (h : ¬ a = b) : (a.toList == b.toList) = false := by
  rw [beq_eq_false_iff_ne]
  intro e
  rw [Go.ByteArray.toList_eq, Go.ByteArray.toList_eq] at e
  obtain ⟨a⟩ := a
  obtain ⟨b⟩ := b
  have e' : a = b := Array.toList_inj.1 e
  exact h (by rw [e'])
theorem bs_inj {a b : List UInt8} (h : bs a = bs b) : a = b := by
  have : (bs a).data = (bs b).data := by rw [h]
  exact List.toArray_inj this
/-- Another root, another text. -/
theorem canA_other {G : Gr} (h : Right G) (h7 : No7 G.roots) {k : Nat} (hk : k < 6) : canA { G with roots := G.roots.set k (1, 77777) } ≠ bs (canT G) := by
  have R : Right { G with roots := G.roots.set k (1, 77777) } := right_root h k (by show refOk G.objs (1, 77777) = true; simp [refOk, inR])
  intro e
  unfold canA at e
  rw [if_pos R.gOk] at e
  have hl := h.roots6
  refine canT_root (by omega) (by decide) ?_ (bs_inj e)
  intro e7
  refine h7 _ ?_ e7
  rw [List.getD_eq_getElem?_getD, List.getElem?_eq_getElem (by omega)]
  exact List.getElem_mem (by omega)
def dZ19 (k : Nat) : Nat := match k with
  | 0 => 133
  | 1 => 134
  | 2 => 135
  | 3 => 136
  | 4 => 137
  | 5 => 138
  | 6 => 139
  | 7 => 140
  | 8 => 141
  | 9 => 142
  | 10 => 143
  | 11 => 144
  | 12 => 145
  | 13 => 146
  | 14 => 147
  | 15 => 148
  | 16 => 22
  | _ => 2000
theorem dZ19_inj : ∀ k, k < 17 → ∀ j, j < 17 → dZ19 j = dZ19 k → j = k := by decide
def DZ19 (s : Nat) : Bool := s == 22 || s == 133 || s == 134 || s == 135 || s == 136 || s == 137 || s == 138 || s == 139 || s == 140 || s == 141 || s == 142 || s == 143 || s == 144 || s == 145 || s == 146 || s == 147 || s == 148
def FZ19 (P n0 : Nat) (n nx sd : Int) (a4 : Option Addr) (l4 c4 : Nat) (a7 : Option Addr) (l7 c7 : Nat) (rs ds : List Rf) (k : Nat) (t : Value) (W : World) : Prop :=
  match k with
  | 0 => t = .pointer (some ⟨P, 1, none⟩)
  | 1 => t = .slice a4 l4 c4
  | 2 => t = .int .i64 n
  | 3 => ∃ q c, t = .slice (some ⟨q, 0, none⟩) rs.length c ∧ OwnR W n0 (.slice (some ⟨q, 0, none⟩) rs.length c) (rs.map (shR n))
  | 4 => t = .pointer (some ⟨P, 2, none⟩)
  | 5 => t = .slice a7 l7 c7
  | 6 => t = .int .i64 n
  | 7 => ∃ q c, t = .slice (some ⟨q, 0, none⟩) ds.length c ∧ OwnR W n0 (.slice (some ⟨q, 0, none⟩) ds.length c) (ds.map (shR n))
  | 8 => t = .pointer (some ⟨P, 3, none⟩)
  | 9 => t = .int .i64 nx
  | 10 => t = .int .i64 n
  | 11 => t = .int .i64 (nx + n)
  | 12 => t = .int .i64 (nx + n + 5)
  | 13 => t = .pointer (some ⟨P, 4, none⟩)
  | 14 => t = .int .i64 sd
  | 15 => ∃ q1 k1 q2 k2, t = gv (.slice none 0 0) (.slice (some ⟨q1, 0, none⟩) rs.length k1) (.slice (some ⟨q2, 0, none⟩) ds.length k2) (nx + n + 5) sd ∧ OwnR W n0 (.slice (some ⟨q1, 0, none⟩) rs.length k1) (rs.map (shR n)) ∧ OwnR W n0 (.slice (some ⟨q2, 0, none⟩) ds.length k2) (ds.map (shR n))
  | 16 => ∃ B : Nat, t = .pointer (some ⟨B, 0, none⟩) ∧ n0 ≤ B ∧ Five W B 27 (.slice none 0 0) (.slice none 0 0) (.slice none 0 0) (.int .i64 0) (.int .i64 0)
  | _ => False
theorem ref_graph {W : World} {B q : Nat} {base n c : Nat} {es : List Rf} {v0 v1 v2 v3 v4 : Value} (T : Five W B 27 v0 v1 v2 v3 v4) (O : OwnR W base (.slice (some ⟨q, 0, none⟩) n c) es) : q ≠ B := by
  rintro rfl
  obtain ⟨_, ⟨h1, _⟩ | ⟨g, cap, cur, h1, _, h2, _⟩⟩ := O
  · cases h1
  · injection h1 with h1
    injection h1 with h1
    injection h1 with h1
    subst h1
    have e := Option.some.inj (h2.symm.trans T)
    injection e with _ e
    exact absurd e (by decide)
def MZ19 (X : World) (n nx sd : Int) (rs ds : List Rf) (j : Nat) (u : Nat → Value) (W : World) : Prop :=
  match j with
  | 0 => Below X.heap.size X W ∧ (∃ q1 k1 q2 k2, u 148 = gv (.slice none 0 0) (.slice (some ⟨q1, 0, none⟩) rs.length k1) (.slice (some ⟨q2, 0, none⟩) ds.length k2) (nx + n + 5) sd ∧ OwnR W X.heap.size (.slice (some ⟨q1, 0, none⟩) rs.length k1) (rs.map (shR n)) ∧ OwnR W X.heap.size (.slice (some ⟨q2, 0, none⟩) ds.length k2) (ds.map (shR n))) ∧ ∃ B : Nat, u 22 = .pointer (some ⟨B, 0, none⟩) ∧ X.heap.size ≤ B ∧ Five W B 27 (.slice none 0 0) (.slice none 0 0) (.slice none 0 0) (.int .i64 0) (.int .i64 0)
  | _ => Below X.heap.size X W ∧ ∃ B q1 k1 q2 k2 : Nat, u 22 = .pointer (some ⟨B, 0, none⟩) ∧ X.heap.size ≤ B ∧ Five W B 27 (.slice none 0 0) (.slice (some ⟨q1, 0, none⟩) rs.length k1) (.slice (some ⟨q2, 0, none⟩) ds.length k2) (.int .i64 (nx + n + 5)) (.int .i64 sd) ∧ OwnR W X.heap.size (.slice (some ⟨q1, 0, none⟩) rs.length k1) (rs.map (shR n)) ∧ OwnR W X.heap.size (.slice (some ⟨q2, 0, none⟩) ds.length k2) (ds.map (shR n))
def dR14F (k : Nat) : Nat := match k with
  | 0 => 101
  | 1 => 102
  | 2 => 103
  | 3 => 104
  | 4 => 105
  | 5 => 106
  | 6 => 107
  | 7 => 108
  | 8 => 109
  | 9 => 110
  | 10 => 111
  | 11 => 112
  | 12 => 113
  | 13 => 114
  | 14 => 115
  | 15 => 116
  | 16 => 117
  | 17 => 118
  | 18 => 119
  | 19 => 120
  | 20 => 121
  | 21 => 122
  | 22 => 123
  | 23 => 124
  | 24 => 125
  | _ => 2000
theorem dR14F_inj : ∀ k, k < 25 → ∀ j, j < 25 → dR14F j = dR14F k → j = k := by decide
def DR14F (s : Nat) : Bool := s == 101 || s == 102 || s == 103 || s == 104 || s == 105 || s == 106 || s == 107 || s == 108 || s == 109 || s == 110 || s == 111 || s == 112 || s == 113 || s == 114 || s == 115 || s == 116 || s == 117 || s == 118 || s == 119 || s == 120 || s == 121 || s == 122 || s == 123 || s == 124 || s == 125
def FR14F (g6 g9 : Value) (k : Nat) (t : Value) (W : World) : Prop :=
  match k with
  | 0 => t = .bool false
  | 1 => t = .bool false
  | 2 => t = .bool false
  | 3 => t = .bool false
  | 4 => t = g6
  | 5 => t = g9
  | 6 => t = .bool true
  | 7 => t = .bool false
  | 8 => t = .bool false
  | 9 => t = .bool false
  | 10 => t = .bool false
  | 11 => t = .bool false
  | 12 => t = undef
  | 13 => t = undef
  | 14 => t = undef
  | 15 => t = undef
  | 16 => t = undef
  | 17 => t = undef
  | 18 => t = undef
  | 19 => t = undef
  | 20 => t = undef
  | 21 => t = undef
  | 22 => t = undef
  | 23 => t = .bool false
  | 24 => t = .bool false
  | _ => False
def dR14T (k : Nat) : Nat := match k with
  | 0 => 101
  | 1 => 102
  | 2 => 103
  | 3 => 104
  | 4 => 105
  | 5 => 106
  | 6 => 107
  | 7 => 108
  | 8 => 109
  | 9 => 110
  | 10 => 111
  | 11 => 112
  | 12 => 113
  | 13 => 114
  | 14 => 115
  | 15 => 116
  | 16 => 117
  | 17 => 118
  | 18 => 119
  | 19 => 120
  | 20 => 121
  | 21 => 122
  | 22 => 123
  | 23 => 124
  | 24 => 125
  | _ => 2000
theorem dR14T_inj : ∀ k, k < 25 → ∀ j, j < 25 → dR14T j = dR14T k → j = k := by decide
def DR14T (s : Nat) : Bool := s == 101 || s == 102 || s == 103 || s == 104 || s == 105 || s == 106 || s == 107 || s == 108 || s == 109 || s == 110 || s == 111 || s == 112 || s == 113 || s == 114 || s == 115 || s == 116 || s == 117 || s == 118 || s == 119 || s == 120 || s == 121 || s == 122 || s == 123 || s == 124 || s == 125
def FR14T (g6 g9 : Value) (P6 P5 xb xo s66 yb yo s56 n m : Nat) (f0 f1 : Int) (k : Nat) (t : Value) (W : World) : Prop :=
  match k with
  | 0 => t = .bool true
  | 1 => t = .bool true
  | 2 => t = .bool false
  | 3 => t = .bool false
  | 4 => t = g6
  | 5 => t = g9
  | 6 => t = .bool true
  | 7 => t = .bool false
  | 8 => t = .bool false
  | 9 => t = .bool false
  | 10 => t = .bool true
  | 11 => t = .bool true
  | 12 => t = .pointer (some ⟨P6, 1, none⟩)
  | 13 => t = .slice (some ⟨xb, xo, none⟩) 6 s66
  | 14 => t = .int .i64 (n : Int)
  | 15 => t = .pointer (some ⟨xb, xo + n * 2, none⟩)
  | 16 => t = rv (f0, f1)
  | 17 => t = .pointer (some ⟨P5, 1, none⟩)
  | 18 => t = .slice (some ⟨yb, yo, none⟩) 6 s56
  | 19 => t = .int .i64 (m : Int)
  | 20 => t = .pointer (some ⟨yb, yo + m * 2, none⟩)
  | 21 => t = rv (f0, f1)
  | 22 => t = .bool false
  | 23 => t = .bool false
  | 24 => t = .bool false
  | _ => False
def RelW (W W' : World) : Prop := Below W.heap.size W W'
theorem relW_refl (W : World) : RelW W W := Below.refl _ _
theorem relW_trans (a b c : World) (h : RelW a b) (g : RelW b c) : RelW a c := Below.trans h (Below.mono g (Below.size h))
theorem relW_drew (W : World) : RelW W W.drew := (Below.refl _ _).drew

set_option maxHeartbeats 32000000 in
theorem canLaw (a0 : Option Addr) (len0 cap0 : Nat) (w : World) (ht : TabC w)
    (DC : len0 ≤ 4096 → ∀ W, Below w.heap.size w W → Calls Tryz.prog 5 #[.slice a0 len0 cap0] W fun e w' => ∃ (o r m : Value) (ms : List MO) (G : Gr), e = .returned (gv o r m G.next G.seed) ∧ GraphAt w' o r m ms G ∧ gSize ms G ≤ 1048576 ∧ No7 G.roots ∧ Below W.heap.size W w')
    (DP' : len0 ≤ 4096 → ∀ W, Below w.heap.size w W → Calls Tryz.prog 7 #[.slice a0 len0 cap0] W fun e w' => ∃ (o r m : Value) (ms : List MO) (G : Gr) (x0 r0 r1 : Int), e = .returned (.tuple #[gv o r m G.next G.seed, .int .i64 x0, rv (r0, r1)]) ∧ GraphAt w' o r m ms G ∧ gSize ms G ≤ 1048576 ∧ Below W.heap.size W w')
    (DK : len0 ≤ 4096 → ∀ W, Below w.heap.size w W → Calls Tryz.prog 9 #[.slice a0 len0 cap0] W fun e w' => ∃ (o r m : Value) (ms : List MO) (G : Gr) (x0 x1 : Int), e = .returned (.tuple #[gv o r m G.next G.seed, .int .i64 x0, .int .i64 x1]) ∧ GraphAt w' o r m ms G ∧ gSize ms G ≤ 1048576 ∧ Below W.heap.size W w')
    (DH : len0 ≤ 4096 → ∀ W, Below w.heap.size w W → Calls Tryz.prog 11 #[.slice a0 len0 cap0] W fun e w' => ∃ (o r m : Value) (ms : List MO) (G : Gr) (x0 : Int), e = .returned (.tuple #[gv o r m G.next G.seed, .int .i64 x0]) ∧ GraphAt w' o r m ms G ∧ gSize ms G ≤ 1048576 ∧ Below W.heap.size W w')
    (PK : len0 ≤ 4096 → ∀ W, Below w.heap.size w W → ∀ s m : Int, 0 ≤ s → s ≤ 1000 → 1 ≤ m → m ≤ 65536 → Calls Tryz.prog 19 #[.slice a0 len0 cap0, .int .i64 s, .int .i64 m] W fun e w' => ∃ k : Nat, (k : Int) < m ∧ e = .returned (.int .i64 k) ∧ w' = W) :
    Calls Tryz.prog 3 #[.slice a0 len0 cap0] w fun e w' => e = .returned (.bool true) ∧ Below w.heap.size w w' := by
  have hl : 4096 < len0 ∨ len0 ≤ 4096 := by omega
  rcases hl with hl | hl
  · have hl' : (4096 : Int) < (len0 : Int) := by omega
    clear DC DP' DK DH PK
    go_enter Tryz.func3, Tryz.ntmps3
    go_wp2
    go_ret
    exact ⟨rfl, Below.refl _ _⟩
  have hl' : ¬ (4096 : Int) < (len0 : Int) := by omega
  have DC := DC hl
  have DP' := DP' hl
  have DK := DK hl
  have DH := DH hl
  have PK := PK hl
  have HPK : Hid (∀ W, Below w.heap.size w W → ∀ s m : Int, 0 ≤ s → s ≤ 1000 → 1 ≤ m → m ≤ 65536 → Calls Tryz.prog 19 #[.slice a0 len0 cap0, .int .i64 s, .int .i64 m] W fun e w' => ∃ k : Nat, (k : Int) < m ∧ e = .returned (.int .i64 k) ∧ w' = W) := PK
  clear PK
  have HTB : Hid (TabC w) := ht
  clear ht
  have HK : Hid (∀ V, Below w.heap.size w V → Below w.heap.size w V) := fun V h => h
  go_enter Tryz.func3, Tryz.ntmps3
  go_wp2_with (go_at_call 4; go_in)
  refine (DC w (HK.out w (Below.refl _ _))).mono ?_
  rintro e w1 ⟨o1, r1, m1, ms1, G1, rfl, A1, Z1, N7, q⟩
  clear DC
  obtain ⟨s11, s12, s13, s14, s15, s16, s17, s18, s19, e1, e2, e3⟩ := graphAt_slices A1
  subst e1 e2 e3
  have HN7 : Hid (No7 G1.roots) := N7
  clear N7
  have HK' : Hid _ := keep_box (keep_to HK.out q) A1
  clear HK
  have HK : Hid _ := HK'.out
  clear HK' q A1
  obtain ⟨⟨c10, c11, c12, c13, c14⟩, GA1⟩ := (HK.out (w1.alloc (gb (.slice s11 s12 s13) (.slice s14 s15 s16) (.slice s17 s18 s19) G1.next G1.seed)) (Below.refl _ _)).2
  have C := implCanon GA1 Z1 (tabC_below HTB.out (HK.out (w1.alloc (gb (.slice s11 s12 s13) (.slice s14 s15 s16) (.slice s17 s18 s19) G1.next G1.seed)) (Below.refl _ _)).1)
  go_wp2_with fail
  generalize hX : (w1.alloc (gb (.slice s11 s12 s13) (.slice s14 s15 s16) (.slice s17 s18 s19) G1.next G1.seed)) = X1 at *
  generalize w1.heap.size = P1 at *
  clear hX
  refine C.mono ?_
  rintro e w2 ⟨rfl, q⟩
  clear C GA1
  clear c10 c11 c12 c13 c14
  obtain ⟨SB, hSB⟩ : ∃ SB, canA G1 = SB := ⟨_, rfl⟩
  have HSB : Hid (canA G1 = SB) := hSB
  simp only [hSB]
  clear hSB
  have HK' : Hid _ := keep_to HK.out q
  clear HK q
  have HK : Hid _ := HK'.out
  clear HK'
  have D := DP' w2 (HK.out w2 (Below.refl _ _)).1
  go_wp2_with fail
  refine D.mono ?_
  rintro e w3 ⟨o3, r3, m3, ms3, G3, x3, f30, f31, rfl, A3, Z3, q⟩
  clear D DP'
  obtain ⟨s31, s32, s33, s34, s35, s36, s37, s38, s39, e1, e2, e3⟩ := graphAt_slices A3
  subst e1 e2 e3
  have HK' : Hid _ := keep_ref (keep_box (keep_to HK.out q) A3) (f30, f31)
  clear HK
  have HK : Hid _ := HK'.out
  clear HK' q A3
  obtain ⟨⟨c3_0, c3_1, c3_2, c3_3, c3_4⟩, GA3⟩ := (HK.out ((w3.alloc (gb (.slice s31 s32 s33) (.slice s34 s35 s36) (.slice s37 s38 s39) G3.next G3.seed)).alloc (rb (f30, f31))) (Below.refl _ _)).1.2
  have C := implGPut GA3 Z3 x3 (f30, f31)
  go_wp2_with fail
  generalize hX : ((w3.alloc (gb (.slice s31 s32 s33) (.slice s34 s35 s36) (.slice s37 s38 s39) G3.next G3.seed)).alloc (rb (f30, f31))) = X3 at *
  have eP : (w3.alloc (gb (.slice s31 s32 s33) (.slice s34 s35 s36) (.slice s37 s38 s39) G3.next G3.seed)).heap.size = w3.heap.size + 1 := by simp
  rw [eP] at HK
  generalize w3.heap.size = P3 at *
  clear hX eP
  refine C.mono ?_
  rintro e w4 ⟨o4, r4, m4, ms4, rfl, O4, q⟩
  have Z4 := hR_GPut G3 x3 (f30, f31) ⟨ms3, GA3.1, Z3⟩ ms4 O4.1
  have A4 := ownG_at O4
  clear C O4 GA3
  clear c3_0 c3_1 c3_2 c3_3 c3_4
  obtain ⟨R4, hR4⟩ : ∃ R, gPut G3 x3 (f30, f31) = R := ⟨_, rfl⟩
  rw [hR4] at A4 Z4
  have HR4 : Hid (gPut G3 x3 (f30, f31) = R4) := hR4
  simp only [hR4]
  clear hR4
  obtain ⟨s41, s42, s43, s44, s45, s46, s47, s48, s49, e1, e2, e3⟩ := graphAt_slices A4
  subst e1 e2 e3
  have HK' : Hid _ := keep_box (keep_to HK.out q) A4
  clear HK
  have HK : Hid _ := HK'.out
  clear HK' q A4
  go_wp2_with fail
  generalize hX : (w4.alloc (gb (.slice s41 s42 s43) (.slice s44 s45 s46) (.slice s47 s48 s49) R4.1.next R4.1.seed)) = X4 at *
  generalize w4.heap.size = P4 at *
  clear hX
  refine (DK X4 (HK.out X4 (Below.refl _ _)).1.1.1.1).mono ?_
  rintro e w5 ⟨o5, r5, m5, ms5, G5, x5, y5, rfl, A5, Z5, q⟩
  clear DK
  obtain ⟨s51, s52, s53, s54, s55, s56, s57, s58, s59, e1, e2, e3⟩ := graphAt_slices A5
  subst e1 e2 e3
  have HK' : Hid _ := keep_box (keep_to HK.out q) A5
  clear HK
  have HK : Hid _ := HK'.out
  clear HK' q A5
  obtain ⟨⟨c5_0, c5_1, c5_2, c5_3, c5_4⟩, GA5⟩ := (HK.out (w5.alloc (gb (.slice s51 s52 s53) (.slice s54 s55 s56) (.slice s57 s58 s59) G5.next G5.seed)) (Below.refl _ _)).2
  have C := implGCopied GA5 Z5 x5 y5
  go_wp2_with fail
  generalize hX : (w5.alloc (gb (.slice s51 s52 s53) (.slice s54 s55 s56) (.slice s57 s58 s59) G5.next G5.seed)) = X5 at *
  generalize w5.heap.size = P5 at *
  clear hX
  refine C.mono ?_
  rintro e w6 ⟨o6, r6, m6, ms6, rfl, O6, q⟩
  have Z6 := hR_GCopied G5 x5 y5 ⟨ms5, GA5.1, Z5⟩ ms6 O6.1
  have A6 := ownG_at O6
  clear C O6 GA5
  clear c5_0 c5_1 c5_2 c5_3 c5_4
  obtain ⟨R6, hR6⟩ : ∃ R, gCopied G5 x5 y5 = R := ⟨_, rfl⟩
  rw [hR6] at A6 Z6
  have HR6 : Hid (gCopied G5 x5 y5 = R6) := hR6
  simp only [hR6]
  clear hR6
  obtain ⟨s61, s62, s63, s64, s65, s66, s67, s68, s69, e1, e2, e3⟩ := graphAt_slices A6
  subst e1 e2 e3
  have HK' : Hid _ := keep_box (keep_to HK.out q) A6
  clear HK
  have HK : Hid _ := HK'.out
  clear HK' q A6
  go_wp2_with fail
  generalize hX : (w6.alloc (gb (.slice s61 s62 s63) (.slice s64 s65 s66) (.slice s67 s68 s69) R6.1.next R6.1.seed)) = X6 at *
  generalize w6.heap.size = P6 at *
  clear hX
  refine (DH X6 (HK.out X6 (Below.refl _ _)).1.1.1.1.1.1).mono ?_
  rintro e w7 ⟨o7, r7, m7, ms7, G7, x7, rfl, A7, Z7, q⟩
  clear DH
  obtain ⟨s71, s72, s73, s74, s75, s76, s77, s78, s79, e1, e2, e3⟩ := graphAt_slices A7
  subst e1 e2 e3
  have HK' : Hid _ := keep_box (keep_to HK.out q) A7
  clear HK
  have HK : Hid _ := HK'.out
  clear HK' q A7
  obtain ⟨⟨c3_0, c3_1, c3_2, c3_3, c3_4⟩, GA3⟩ := (HK.out (w7.alloc (gb (.slice s71 s72 s73) (.slice s74 s75 s76) (.slice s77 s78 s79) G7.next G7.seed)) (Below.refl _ _)).1.1.1.1.1.2
  obtain ⟨p30, p31⟩ := (HK.out (w7.alloc (gb (.slice s71 s72 s73) (.slice s74 s75 s76) (.slice s77 s78 s79) G7.next G7.seed)) (Below.refl _ _)).1.1.1.1.2
  have C := sGPut_any GA3 Z3 x3 (f30, f31)
  rw [HR4.out] at C
  go_wp2_with fail
  generalize hX : (w7.alloc (gb (.slice s71 s72 s73) (.slice s74 s75 s76) (.slice s77 s78 s79) G7.next G7.seed)) = X7 at *
  generalize w7.heap.size = P7 at *
  clear hX
  refine C.mono ?_
  rintro e w8 ⟨o8, r8, m8, ms8, rfl, O8, q⟩
  have A8 := ownG_at O8
  clear C O8 GA3 p30 p31
  clear c3_0 c3_1 c3_2 c3_3 c3_4
  obtain ⟨s81, s82, s83, s84, s85, s86, s87, s88, s89, e1, e2, e3⟩ := graphAt_slices A8
  subst e1 e2 e3
  have HK' : Hid _ := keep_box (keep_to HK.out q) A8
  clear HK
  have HK : Hid _ := HK'.out
  clear HK' q A8
  have bb4 : (R4.2 != R4.2) = false := by simp
  obtain ⟨⟨c4_0, c4_1, c4_2, c4_3, c4_4⟩, GA4⟩ := (HK.out (w8.alloc (gb (.slice s81 s82 s83) (.slice s84 s85 s86) (.slice s87 s88 s89) R4.1.next R4.1.seed)) (Below.refl _ _)).1.1.1.1.2
  obtain ⟨⟨c8_0, c8_1, c8_2, c8_3, c8_4⟩, GA8⟩ := (HK.out (w8.alloc (gb (.slice s81 s82 s83) (.slice s84 s85 s86) (.slice s87 s88 s89) R4.1.next R4.1.seed)) (Below.refl _ _)).2
  have CL := likeGraph_same (w := (w8.alloc (gb (.slice s81 s82 s83) (.slice s84 s85 s86) (.slice s87 s88 s89) R4.1.next R4.1.seed)).drew) (graphAt_below GA4 (Below.refl _ _).drew) (graphAt_below GA8 (Below.refl _ _).drew) Z4
  go_upto_region 11 with (fail)
  generalize hX : (w8.alloc (gb (.slice s81 s82 s83) (.slice s84 s85 s86) (.slice s87 s88 s89) R4.1.next R4.1.seed)) = X8 at *
  generalize w8.heap.size = P8 at *
  clear hX
  have HDR : Hid (Below X8.heap.size X8 X8.drew) := (Below.refl _ _).drew
  have HO1 : Hid (∀ V, Below X8.heap.size X8 V → Ax V P1 (.slice s11 s12 s13) (.slice s14 s15 s16) (.slice s17 s18 s19) ms1 G1) := fun V hV => (HK.out V hV).1.1.1.1.1.1.1.2
  have HO7 : Hid (∀ V, Below X8.heap.size X8 V → Ax V P7 (.slice s71 s72 s73) (.slice s74 s75 s76) (.slice s77 s78 s79) ms7 G7) := fun V hV => (HK.out V hV).1.2
  clear GA4 GA8
  go_cut [93] from 26 to 93 (fun v wr => v = .bool false ∧ Hid (Below X8.heap.size X8 wr))
  case first =>
    go_region_law (first
      | (go_simp; go_at_call 13; refine CL.mono ?_; clear CL; rintro e v1 ⟨rfl, q1⟩; have D1 := HDR.out.trans (q1.mono HDR.out.size); obtain ⟨⟨d0, d1, d2, d3, d4⟩, GAx⟩ := HO1.out v1 D1; have CO := sCanon_any GAx Z1; rw [HSB.out] at CO; have HD1 : Hid (Below X8.heap.size X8 v1) := D1; clear q1 D1 GAx)
      | (go_simp; go_at_call 14; refine CO.mono ?_; clear CO; rintro e v2 ⟨rfl, q2⟩; have D2 := HD1.out.trans (q2.mono HD1.out.size); obtain ⟨⟨h0, h1, h2, h3, h4⟩, GAy⟩ := HO7.out v2 D2; have CS := implGHash GAy Z7 x7; have HD2 : Hid (Below X8.heap.size X8 v2) := D2; clear q2 D2 GAy)
      | (go_simp; go_at_call 15; refine CS.mono ?_; clear CS; rintro e v3 ⟨rfl, q3⟩; have D3 := HD2.out.trans (q3.mono HD2.out.size); obtain ⟨⟨k0, k1, k2, k3, k4⟩, GAz⟩ := HO7.out v3 D3; have CT := sGHash_any GAz Z7 x7; have HD3 : Hid (Below X8.heap.size X8 v3) := D3; clear q3 D3 GAz)
      | (go_simp; go_at_call 16; refine CT.mono ?_; clear CT; rintro e v4 ⟨rfl, q4⟩; have HD4 : Hid (Below X8.heap.size X8 v4) := HD3.out.trans (q4.mono HD3.out.size); clear q4))
    all_goals go_wp2
    all_goals go_meet
    all_goals exact ⟨rfl, HD4⟩
  obtain ⟨rfl, HBc⟩ := hcut
  obtain ⟨Y8, hY8⟩ : ∃ Y8, Y8 = wc := ⟨_, rfl⟩
  subst hY8
  have HK' : Hid _ := keep_to HK.out HBc.out
  clear HK HBc HO1 HO7 HDR CL bb4
  clear c4_0 c4_1 c4_2 c4_3 c4_4 c8_0 c8_1 c8_2 c8_3 c8_4
  have HK : Hid _ := HK'.out
  clear HK'
  obtain ⟨⟨c5_0, c5_1, c5_2, c5_3, c5_4⟩, GA5⟩ := (HK.out Y8 (Below.refl _ _)).1.1.1.2
  have C := sGCopied_any GA5 Z5 x5 y5
  rw [HR6.out] at C
  go_wp2_with fail
  refine C.mono ?_
  rintro e w9 ⟨o9, r9, m9, ms9, rfl, O9, q⟩
  have A9 := ownG_at O9
  clear C O9 GA5
  clear c5_0 c5_1 c5_2 c5_3 c5_4
  obtain ⟨s91, s92, s93, s94, s95, s96, s97, s98, s99, e1, e2, e3⟩ := graphAt_slices A9
  subst e1 e2 e3
  have HK' : Hid _ := keep_box (keep_to HK.out q) A9
  clear HK
  have HK : Hid _ := HK'.out
  clear HK' q A9
  have bb6 : (R6.2 != R6.2) = false := by simp
  obtain ⟨⟨c6_0, c6_1, c6_2, c6_3, c6_4⟩, GA6⟩ := (HK.out (w9.alloc (gb (.slice s91 s92 s93) (.slice s94 s95 s96) (.slice s97 s98 s99) R6.1.next R6.1.seed)) (Below.refl _ _)).1.1.1.2
  obtain ⟨⟨c9_0, c9_1, c9_2, c9_3, c9_4⟩, GA9⟩ := (HK.out (w9.alloc (gb (.slice s91 s92 s93) (.slice s94 s95 s96) (.slice s97 s98 s99) R6.1.next R6.1.seed)) (Below.refl _ _)).2
  go_upto_region 14 with (fail)
  generalize hX : (w9.alloc (gb (.slice s91 s92 s93) (.slice s94 s95 s96) (.slice s97 s98 s99) R6.1.next R6.1.seed)) = X9 at *
  generalize w9.heap.size = P9 at *
  clear hX
  have HO5 : Hid (∀ V, Below X9.heap.size X9 V → Ax V P5 (.slice s51 s52 s53) (.slice s54 s55 s56) (.slice s57 s58 s59) ms5 G5) := fun V hV => (HK.out V hV).1.1.1.1.2
  have HO6 : Hid (∀ V, Below X9.heap.size X9 V → Ax V P6 (.slice s61 s62 s63) (.slice s64 s65 s66) (.slice s67 s68 s69) ms6 R6.1) := fun V hV => (HK.out V hV).1.1.1.2
  have HO9 : Hid (∀ V, Below X9.heap.size X9 V → Ax V P9 (.slice s91 s92 s93) (.slice s94 s95 s96) (.slice s97 s98 s99) ms9 R6.1) := fun V hV => (HK.out V hV).2
  clear GA6 GA9
  go_cut [125] from 26 to 125 (fun v wr => v = .bool false ∧ Hid (Below X9.heap.size X9 wr))
  case first =>
    rcases (show R6.2 = false ∨ R6.2 = true by cases R6.2 <;> simp) with b6 | b6
    · clear bb6
      generalize hA0 : (Act.mk _ []) = A0
      have e13 : A0.tmps.getD 13 undef = .pointer (some ⟨P6, 0, none⟩) := by rw [← hA0]; rfl
      have e19 : A0.tmps.getD 19 undef = .pointer (some ⟨P9, 0, none⟩) := by rw [← hA0]; rfl
      have e10 : A0.tmps.getD 10 undef = .pointer (some ⟨P5, 0, none⟩) := by rw [← hA0]; rfl
      have e14 : A0.tmps.getD 14 undef = .bool R6.2 := by rw [← hA0]; rfl
      have e20 : A0.tmps.getD 20 undef = .bool R6.2 := by rw [← hA0]; rfl
      rw [b6] at e14 e20
      have sz : A0.tmps.size = 217 := by rw [← hA0]; rfl
      have ed : A0.defers = [] := by rw [← hA0]
      refine wp_region_guardedB (by kernel_rfl) DR14F RelW relW_trans (relW_drew _) (by
          intro k o ho
          have hk : k < 25 := (Array.getElem?_eq_some_iff.1 ho).1
          rcases (show k = 0 ∨ k = 1 ∨ k = 2 ∨ k = 3 ∨ k = 4 ∨ k = 5 ∨ k = 6 ∨ k = 7 ∨ k = 8 ∨ k = 9 ∨ k = 10 ∨ k = 11 ∨ k = 12 ∨ k = 13 ∨ k = 14 ∨ k = 15 ∨ k = 16 ∨ k = 17 ∨ k = 18 ∨ k = 19 ∨ k = 20 ∨ k = 21 ∨ k = 22 ∨ k = 23 ∨ k = 24 by omega) with rfl | rfl | rfl | rfl | rfl | rfl | rfl | rfl | rfl | rfl | rfl | rfl | rfl | rfl | rfl | rfl | rfl | rfl | rfl | rfl | rfl | rfl | rfl | rfl | rfl <;> (obtain rfl := Option.some.inj ho; simp [Region.binds])) 25 rfl dR14F dR14F_inj (FR14F (gv (.slice s61 s62 s63) (.slice s64 s65 s66) (.slice s67 s68 s69) R6.1.next R6.1.seed) (gv (.slice s91 s92 s93) (.slice s94 s95 s96) (.slice s97 s98 s99) R6.1.next R6.1.seed)) ?_ ?_ ?_
      · intro j t W W' hR h
        match j, h with
        | 0, h => exact h
        | 1, h => exact h
        | 2, h => exact h
        | 3, h => exact h
        | 4, h => exact h
        | 5, h => exact h
        | 6, h => exact h
        | 7, h => exact h
        | 8, h => exact h
        | 9, h => exact h
        | 10, h => exact h
        | 11, h => exact h
        | 12, h => exact h
        | 13, h => exact h
        | 14, h => exact h
        | 15, h => exact h
        | 16, h => exact h
        | 17, h => exact h
        | 18, h => exact h
        | 19, h => exact h
        | 20, h => exact h
        | 21, h => exact h
        | 22, h => exact h
        | 23, h => exact h
        | 24, h => exact h
        | _ + 25, h => exact h.elim
      · intro j o u W hj ho hR hF
        have ev : ∀ s, DR14F s = true → s < 217 → (ovr DR14F A0 u).tmps[s]?.getD undef = u s := fun s h1 h2 => (getD_at _ _).symm.trans (eval_in h1 (by omega))
        have o13 : (ovr DR14F A0 u).tmps[13]?.getD undef = _ := (getD_at _ _).symm.trans ((eval_out (D := DR14F) (a0 := A0) (u := u) (s := 13) rfl (by omega)).trans e13)
        have o19 : (ovr DR14F A0 u).tmps[19]?.getD undef = _ := (getD_at _ _).symm.trans ((eval_out (D := DR14F) (a0 := A0) (u := u) (s := 19) rfl (by omega)).trans e19)
        have o10 : (ovr DR14F A0 u).tmps[10]?.getD undef = _ := (getD_at _ _).symm.trans ((eval_out (D := DR14F) (a0 := A0) (u := u) (s := 10) rfl (by omega)).trans e10)
        have o14 : (ovr DR14F A0 u).tmps[14]?.getD undef = _ := (getD_at _ _).symm.trans ((eval_out (D := DR14F) (a0 := A0) (u := u) (s := 14) rfl (by omega)).trans e14)
        have o20 : (ovr DR14F A0 u).tmps[20]?.getD undef = _ := (getD_at _ _).symm.trans ((eval_out (D := DR14F) (a0 := A0) (u := u) (s := 20) rfl (by omega)).trans e20)
        obtain ⟨⟨d0, d1, d2, d3, d4⟩, _⟩ := HO6.out W hR
        obtain ⟨⟨e0, e1, e2, e3, e4⟩, _⟩ := HO9.out W hR
        rcases (show j = 0 ∨ j = 1 ∨ j = 2 ∨ j = 3 ∨ j = 4 ∨ j = 5 ∨ j = 6 ∨ j = 7 ∨ j = 8 ∨ j = 9 ∨ j = 10 ∨ j = 11 ∨ j = 12 ∨ j = 13 ∨ j = 14 ∨ j = 15 ∨ j = 16 ∨ j = 17 ∨ j = 18 ∨ j = 19 ∨ j = 20 ∨ j = 21 ∨ j = 22 ∨ j = 23 ∨ j = 24 by omega) with rfl | rfl | rfl | rfl | rfl | rfl | rfl | rfl | rfl | rfl | rfl | rfl | rfl | rfl | rfl | rfl | rfl | rfl | rfl | rfl | rfl | rfl | rfl | rfl | rfl
        all_goals obtain rfl := Option.some.inj ho
        · refine tellVw (v := .bool false) (wanted_none rfl) ?_ ?_ ?_ (relW_refl _) ?_
          · exact rfl
          · exact rfl
          · simp only [execOp]
            go_simp
            try go_num
            try (rw [IntKind.wrap_i64]; omega)
          · exact rfl
        · refine tellVw (v := .bool false) (wanted_none rfl) ?_ ?_ ?_ (relW_refl _) ?_
          · exact rfl
          · exact rfl
          · simp only [execOp]
            go_simp
            try go_num
            try (rw [IntKind.wrap_i64]; omega)
          · exact rfl
        · have x0 := (ev 101 rfl (by decide)).trans (hF 0 (by decide) (by simp [Region.binds]))
          have x1 := (ev 102 rfl (by decide)).trans (hF 1 (by decide) (by simp [Region.binds]))
          refine tellVw (v := .bool false) (wanted_none rfl) ?_ ?_ ?_ (relW_refl _) ?_
          · exact rfl
          · exact rfl
          · simp only [execOp]
            go_simp
            try go_num
            try (rw [IntKind.wrap_i64]; omega)
          · exact rfl
        · have x2 := (ev 103 rfl (by decide)).trans (hF 2 (by decide) (by simp [Region.binds]))
          refine tellVw (v := .bool false) (wanted_none rfl) ?_ ?_ ?_ (relW_refl _) ?_
          · exact rfl
          · exact rfl
          · simp only [execOp]
            go_simp
            try go_num
            try (rw [IntKind.wrap_i64]; omega)
          · exact rfl
        · refine tellVw (v := (gv (.slice s61 s62 s63) (.slice s64 s65 s66) (.slice s67 s68 s69) R6.1.next R6.1.seed)) (wanted_yes (g := 3) (d := 104) rfl rfl rfl rfl (by omega) (hF 3 (by decide) (by simp [Region.binds]))) ?_ ?_ ?_ (relW_refl _) ?_
          · exact rfl
          · exact rfl
          · simp only [execOp]
            go_simp
            try go_num
            try (rw [IntKind.wrap_i64]; omega)
          · exact rfl
        · refine tellVw (v := (gv (.slice s91 s92 s93) (.slice s94 s95 s96) (.slice s97 s98 s99) R6.1.next R6.1.seed)) (wanted_yes (g := 3) (d := 104) rfl rfl rfl rfl (by omega) (hF 3 (by decide) (by simp [Region.binds]))) ?_ ?_ ?_ (relW_refl _) ?_
          · exact rfl
          · exact rfl
          · simp only [execOp]
            go_simp
            try go_num
            try (rw [IntKind.wrap_i64]; omega)
          · exact rfl
        · have x4 := (ev 105 rfl (by decide)).trans (hF 4 (by decide) (by simp [Region.binds]))
          have x5 := (ev 106 rfl (by decide)).trans (hF 5 (by decide) (by simp [Region.binds]))
          have CL := likeGraph_same (HO6.out W hR).2 (HO9.out W hR).2 Z6
          refine tellCw (f := 13) (args := #[gv (.slice s61 s62 s63) (.slice s64 s65 s66) (.slice s67 s68 s69) R6.1.next R6.1.seed, gv (.slice s91 s92 s93) (.slice s94 s95 s96) (.slice s97 s98 s99) R6.1.next R6.1.seed]) (wanted_yes (g := 3) (d := 104) rfl rfl rfl rfl (by omega) (hF 3 (by decide) (by simp [Region.binds]))) ?_ ?_ ?_ (CL.mono ?_)
          · exact rfl
          · exact rfl
          · simp only [execOp]
            go_simp
          rintro e w' ⟨rfl, b'⟩
          exact ⟨_, rfl, b', rfl⟩
        · have x6 := (ev 107 rfl (by decide)).trans (hF 6 (by decide) (by simp [Region.binds]))
          refine tellVw (v := .bool false) (wanted_yes (g := 3) (d := 104) rfl rfl rfl rfl (by omega) (hF 3 (by decide) (by simp [Region.binds]))) ?_ ?_ ?_ (relW_refl _) ?_
          · exact rfl
          · exact rfl
          · simp only [execOp]
            go_simp
            try go_num
            try (rw [IntKind.wrap_i64]; omega)
          · exact rfl
        · have x3 := (ev 104 rfl (by decide)).trans (hF 3 (by decide) (by simp [Region.binds]))
          have x7 := (ev 108 rfl (by decide)).trans (hF 7 (by decide) (by simp [Region.binds]))
          refine tellVw (v := .bool false) (wanted_none rfl) ?_ ?_ ?_ (relW_refl _) ?_
          · exact rfl
          · exact rfl
          · simp only [execOp]
            go_simp
            try go_num
            try (rw [IntKind.wrap_i64]; omega)
          · exact rfl
        · have x8 := (ev 109 rfl (by decide)).trans (hF 8 (by decide) (by simp [Region.binds]))
          refine tellVw (v := .bool false) (wanted_none rfl) ?_ ?_ ?_ (relW_refl _) ?_
          · exact rfl
          · exact rfl
          · simp only [execOp]
            go_simp
            try go_num
            try (rw [IntKind.wrap_i64]; omega)
          · exact rfl
        · refine tellVw (v := .bool false) (wanted_yes (g := 9) (d := 110) rfl rfl rfl rfl (by omega) (hF 9 (by decide) (by simp [Region.binds]))) ?_ ?_ ?_ (relW_refl _) ?_
          · exact rfl
          · exact rfl
          · simp only [execOp]
            go_simp
            try go_num
            try (rw [IntKind.wrap_i64]; omega)
          · exact rfl
        · have x10 := (ev 111 rfl (by decide)).trans (hF 10 (by decide) (by simp [Region.binds]))
          refine tellVw (v := .bool false) (wanted_yes (g := 9) (d := 110) rfl rfl rfl rfl (by omega) (hF 9 (by decide) (by simp [Region.binds]))) ?_ ?_ ?_ (relW_refl _) ?_
          · exact rfl
          · exact rfl
          · simp only [execOp]
            go_simp
            try go_num
            try (rw [IntKind.wrap_i64]; omega)
          · exact rfl
        · refine tellN (wanted_not (g := 11) (d := 112) rfl rfl rfl rfl (by omega) (hF 11 (by decide) (by simp [Region.binds]))) ?_ ?_ ?_
          · exact rfl
          · exact rfl
          · exact rfl
        · refine tellN (wanted_not (g := 11) (d := 112) rfl rfl rfl rfl (by omega) (hF 11 (by decide) (by simp [Region.binds]))) ?_ ?_ ?_
          · exact rfl
          · exact rfl
          · exact rfl
        · refine tellN (wanted_not (g := 11) (d := 112) rfl rfl rfl rfl (by omega) (hF 11 (by decide) (by simp [Region.binds]))) ?_ ?_ ?_
          · exact rfl
          · exact rfl
          · exact rfl
        · refine tellN (wanted_not (g := 11) (d := 112) rfl rfl rfl rfl (by omega) (hF 11 (by decide) (by simp [Region.binds]))) ?_ ?_ ?_
          · exact rfl
          · exact rfl
          · exact rfl
        · refine tellN (wanted_not (g := 11) (d := 112) rfl rfl rfl rfl (by omega) (hF 11 (by decide) (by simp [Region.binds]))) ?_ ?_ ?_
          · exact rfl
          · exact rfl
          · exact rfl
        · refine tellN (wanted_not (g := 11) (d := 112) rfl rfl rfl rfl (by omega) (hF 11 (by decide) (by simp [Region.binds]))) ?_ ?_ ?_
          · exact rfl
          · exact rfl
          · exact rfl
        · refine tellN (wanted_not (g := 11) (d := 112) rfl rfl rfl rfl (by omega) (hF 11 (by decide) (by simp [Region.binds]))) ?_ ?_ ?_
          · exact rfl
          · exact rfl
          · exact rfl
        · refine tellN (wanted_not (g := 11) (d := 112) rfl rfl rfl rfl (by omega) (hF 11 (by decide) (by simp [Region.binds]))) ?_ ?_ ?_
          · exact rfl
          · exact rfl
          · exact rfl
        · refine tellN (wanted_not (g := 11) (d := 112) rfl rfl rfl rfl (by omega) (hF 11 (by decide) (by simp [Region.binds]))) ?_ ?_ ?_
          · exact rfl
          · exact rfl
          · exact rfl
        · refine tellN (wanted_not (g := 11) (d := 112) rfl rfl rfl rfl (by omega) (hF 11 (by decide) (by simp [Region.binds]))) ?_ ?_ ?_
          · exact rfl
          · exact rfl
          · exact rfl
        · refine tellN (wanted_not (g := 11) (d := 112) rfl rfl rfl rfl (by omega) (hF 11 (by decide) (by simp [Region.binds]))) ?_ ?_ ?_
          · exact rfl
          · exact rfl
          · exact rfl
        · have x11 := (ev 112 rfl (by decide)).trans (hF 11 (by decide) (by simp [Region.binds]))
          refine tellVw (v := .bool false) (wanted_yes (g := 9) (d := 110) rfl rfl rfl rfl (by omega) (hF 9 (by decide) (by simp [Region.binds]))) ?_ ?_ ?_ (relW_refl _) ?_
          · exact rfl
          · exact rfl
          · simp only [execOp]
            go_simp
            try go_num
            try (rw [IntKind.wrap_i64]; omega)
          · exact rfl
        · have x9 := (ev 110 rfl (by decide)).trans (hF 9 (by decide) (by simp [Region.binds]))
          have x23 := (ev 124 rfl (by decide)).trans (hF 23 (by decide) (by simp [Region.binds]))
          refine tellVw (v := .bool false) (wanted_none rfl) ?_ ?_ ?_ (relW_refl _) ?_
          · exact rfl
          · exact rfl
          · simp only [execOp]
            go_simp
            try go_num
            try (rw [IntKind.wrap_i64]; omega)
          · exact rfl
      · intro u W hR hF
        have f125 : u 125 = .bool false := hF 24 (by decide)
        clear e14 e20 b6
        subst hA0
        simp [ovr, DR14F, List.range, List.range.loop, f125]
        go_wp2
        go_meet
        exact ⟨rfl, hR⟩
    · clear bb6
      obtain ⟨n, m, hn, hm, ex, ey, l6, g6, er⟩ := copied_told HR6.out b6
      subst ex ey
      have A6 := (HO6.out X9 (Below.refl _ _)).2.2.2.1
      have A5 := (HO5.out X9 (Below.refl _ _)).2.2.2.1
      have e65 : s65 = 6 := (refs_len A6).1.symm.trans l6
      have e55 : s55 = 6 := (refs_len A5).1.symm.trans g6
      subst e65 e55
      obtain ⟨xb, xo, rfl, _, _⟩ := refs_cell A6 (i := n) (by omega)
      obtain ⟨yb, yo, rfl, _, _⟩ := refs_cell A5 (i := m) (by omega)
      have HCC : Hid (∀ V, Below X9.heap.size X9 V → (V.cell? ⟨P6, 1, none⟩ = some (.slice (some ⟨xb, xo, none⟩) 6 s66) ∧ V.cell? ⟨xb, xo + n * 2, none⟩ = some (.int .i64 (G5.roots.getD m refD).1) ∧ V.cell? ⟨xb, xo + n * 2 + 1, none⟩ = some (.int .i64 (G5.roots.getD m refD).2)) ∧ (V.cell? ⟨P5, 1, none⟩ = some (.slice (some ⟨yb, yo, none⟩) 6 s56) ∧ V.cell? ⟨yb, yo + m * 2, none⟩ = some (.int .i64 (G5.roots.getD m refD).1) ∧ V.cell? ⟨yb, yo + m * 2 + 1, none⟩ = some (.int .i64 (G5.roots.getD m refD).2))) := fun V hV => by
        obtain ⟨⟨_, k1, _, _, _⟩, K⟩ := HO6.out V hV
        obtain ⟨⟨_, j1, _, _, _⟩, J⟩ := HO5.out V hV
        obtain ⟨b1, o1, e1, k2, k3⟩ := refs_cell K.2.2.1 (i := n) (by omega)
        obtain ⟨b2, o2, e2, j2, j3⟩ := refs_cell J.2.2.1 (i := m) (by omega)
        injection e1 with e1
        injection e1 with e1 e1'
        injection e2 with e2
        injection e2 with e2 e2'
        subst e1 e1' e2 e2'
        rw [er] at k2 k3
        exact ⟨⟨k1, k2, k3⟩, ⟨j1, j2, j3⟩⟩
      have hn1 : (n : Int) < 6 := by omega
      have hm1 : (m : Int) < 6 := by omega
      have hn0 : (0 : Int) ≤ (n : Int) := by omega
      have hm0 : (0 : Int) ≤ (m : Int) := by omega
      clear A6 A5 er l6 g6 hn hm HO5 HR6
      generalize G5.roots.getD m refD = f at *
      obtain ⟨f0, f1⟩ := f
      generalize hA0 : (Act.mk _ []) = A0
      have e13 : A0.tmps.getD 13 undef = .pointer (some ⟨P6, 0, none⟩) := by rw [← hA0]; rfl
      have e19 : A0.tmps.getD 19 undef = .pointer (some ⟨P9, 0, none⟩) := by rw [← hA0]; rfl
      have e10 : A0.tmps.getD 10 undef = .pointer (some ⟨P5, 0, none⟩) := by rw [← hA0]; rfl
      have e14 : A0.tmps.getD 14 undef = .bool R6.2 := by rw [← hA0]; rfl
      have e20 : A0.tmps.getD 20 undef = .bool R6.2 := by rw [← hA0]; rfl
      have e11 : A0.tmps.getD 11 undef = .int .i64 (n : Int) := by rw [← hA0]; rfl
      have e12 : A0.tmps.getD 12 undef = .int .i64 (m : Int) := by rw [← hA0]; rfl
      rw [b6] at e14 e20
      have sz : A0.tmps.size = 217 := by rw [← hA0]; rfl
      have ed : A0.defers = [] := by rw [← hA0]
      refine wp_region_guardedB (by kernel_rfl) DR14T RelW relW_trans (relW_drew _) (by
          intro k o ho
          have hk : k < 25 := (Array.getElem?_eq_some_iff.1 ho).1
          rcases (show k = 0 ∨ k = 1 ∨ k = 2 ∨ k = 3 ∨ k = 4 ∨ k = 5 ∨ k = 6 ∨ k = 7 ∨ k = 8 ∨ k = 9 ∨ k = 10 ∨ k = 11 ∨ k = 12 ∨ k = 13 ∨ k = 14 ∨ k = 15 ∨ k = 16 ∨ k = 17 ∨ k = 18 ∨ k = 19 ∨ k = 20 ∨ k = 21 ∨ k = 22 ∨ k = 23 ∨ k = 24 by omega) with rfl | rfl | rfl | rfl | rfl | rfl | rfl | rfl | rfl | rfl | rfl | rfl | rfl | rfl | rfl | rfl | rfl | rfl | rfl | rfl | rfl | rfl | rfl | rfl | rfl <;> (obtain rfl := Option.some.inj ho; simp [Region.binds])) 25 rfl dR14T dR14T_inj (FR14T (gv (.slice s61 s62 s63) (.slice (some ⟨xb, xo, none⟩) 6 s66) (.slice s67 s68 s69) R6.1.next R6.1.seed) (gv (.slice s91 s92 s93) (.slice s94 s95 s96) (.slice s97 s98 s99) R6.1.next R6.1.seed) P6 P5 xb xo s66 yb yo s56 n m f0 f1) ?_ ?_ ?_
      · intro j t W W' hR h
        match j, h with
        | 0, h => exact h
        | 1, h => exact h
        | 2, h => exact h
        | 3, h => exact h
        | 4, h => exact h
        | 5, h => exact h
        | 6, h => exact h
        | 7, h => exact h
        | 8, h => exact h
        | 9, h => exact h
        | 10, h => exact h
        | 11, h => exact h
        | 12, h => exact h
        | 13, h => exact h
        | 14, h => exact h
        | 15, h => exact h
        | 16, h => exact h
        | 17, h => exact h
        | 18, h => exact h
        | 19, h => exact h
        | 20, h => exact h
        | 21, h => exact h
        | 22, h => exact h
        | 23, h => exact h
        | 24, h => exact h
        | _ + 25, h => exact h.elim
      · intro j o u W hj ho hR hF
        have ev : ∀ s, DR14T s = true → s < 217 → (ovr DR14T A0 u).tmps[s]?.getD undef = u s := fun s h1 h2 => (getD_at _ _).symm.trans (eval_in h1 (by omega))
        have o13 : (ovr DR14T A0 u).tmps[13]?.getD undef = _ := (getD_at _ _).symm.trans ((eval_out (D := DR14T) (a0 := A0) (u := u) (s := 13) rfl (by omega)).trans e13)
        have o19 : (ovr DR14T A0 u).tmps[19]?.getD undef = _ := (getD_at _ _).symm.trans ((eval_out (D := DR14T) (a0 := A0) (u := u) (s := 19) rfl (by omega)).trans e19)
        have o10 : (ovr DR14T A0 u).tmps[10]?.getD undef = _ := (getD_at _ _).symm.trans ((eval_out (D := DR14T) (a0 := A0) (u := u) (s := 10) rfl (by omega)).trans e10)
        have o14 : (ovr DR14T A0 u).tmps[14]?.getD undef = _ := (getD_at _ _).symm.trans ((eval_out (D := DR14T) (a0 := A0) (u := u) (s := 14) rfl (by omega)).trans e14)
        have o20 : (ovr DR14T A0 u).tmps[20]?.getD undef = _ := (getD_at _ _).symm.trans ((eval_out (D := DR14T) (a0 := A0) (u := u) (s := 20) rfl (by omega)).trans e20)
        have o11 : (ovr DR14T A0 u).tmps[11]?.getD undef = _ := (getD_at _ _).symm.trans ((eval_out (D := DR14T) (a0 := A0) (u := u) (s := 11) rfl (by omega)).trans e11)
        have o12 : (ovr DR14T A0 u).tmps[12]?.getD undef = _ := (getD_at _ _).symm.trans ((eval_out (D := DR14T) (a0 := A0) (u := u) (s := 12) rfl (by omega)).trans e12)
        obtain ⟨⟨d0, d1, d2, d3, d4⟩, _⟩ := HO6.out W hR
        obtain ⟨⟨e0, e1, e2, e3, e4⟩, _⟩ := HO9.out W hR
        obtain ⟨⟨k1, k2, k3⟩, ⟨j1, j2, j3⟩⟩ := HCC.out W hR
        rcases (show j = 0 ∨ j = 1 ∨ j = 2 ∨ j = 3 ∨ j = 4 ∨ j = 5 ∨ j = 6 ∨ j = 7 ∨ j = 8 ∨ j = 9 ∨ j = 10 ∨ j = 11 ∨ j = 12 ∨ j = 13 ∨ j = 14 ∨ j = 15 ∨ j = 16 ∨ j = 17 ∨ j = 18 ∨ j = 19 ∨ j = 20 ∨ j = 21 ∨ j = 22 ∨ j = 23 ∨ j = 24 by omega) with rfl | rfl | rfl | rfl | rfl | rfl | rfl | rfl | rfl | rfl | rfl | rfl | rfl | rfl | rfl | rfl | rfl | rfl | rfl | rfl | rfl | rfl | rfl | rfl | rfl
        all_goals obtain rfl := Option.some.inj ho
        · refine tellVw (v := .bool true) (wanted_none rfl) ?_ ?_ ?_ (relW_refl _) ?_
          · exact rfl
          · exact rfl
          · simp only [execOp]
            go_simp
            try go_num
            try (rw [IntKind.wrap_i64]; omega)
          · exact rfl
        · refine tellVw (v := .bool true) (wanted_none rfl) ?_ ?_ ?_ (relW_refl _) ?_
          · exact rfl
          · exact rfl
          · simp only [execOp]
            go_simp
            try go_num
            try (rw [IntKind.wrap_i64]; omega)
          · exact rfl
        · have x0 := (ev 101 rfl (by decide)).trans (hF 0 (by decide) (by simp [Region.binds]))
          have x1 := (ev 102 rfl (by decide)).trans (hF 1 (by decide) (by simp [Region.binds]))
          refine tellVw (v := .bool false) (wanted_none rfl) ?_ ?_ ?_ (relW_refl _) ?_
          · exact rfl
          · exact rfl
          · simp only [execOp]
            go_simp
            try go_num
            try (rw [IntKind.wrap_i64]; omega)
          · exact rfl
        · have x2 := (ev 103 rfl (by decide)).trans (hF 2 (by decide) (by simp [Region.binds]))
          refine tellVw (v := .bool false) (wanted_none rfl) ?_ ?_ ?_ (relW_refl _) ?_
          · exact rfl
          · exact rfl
          · simp only [execOp]
            go_simp
            try go_num
            try (rw [IntKind.wrap_i64]; omega)
          · exact rfl
        · refine tellVw (v := (gv (.slice s61 s62 s63) (.slice (some ⟨xb, xo, none⟩) 6 s66) (.slice s67 s68 s69) R6.1.next R6.1.seed)) (wanted_yes (g := 3) (d := 104) rfl rfl rfl rfl (by omega) (hF 3 (by decide) (by simp [Region.binds]))) ?_ ?_ ?_ (relW_refl _) ?_
          · exact rfl
          · exact rfl
          · simp only [execOp]
            go_simp
            try go_num
            try (rw [IntKind.wrap_i64]; omega)
          · exact rfl
        · refine tellVw (v := (gv (.slice s91 s92 s93) (.slice s94 s95 s96) (.slice s97 s98 s99) R6.1.next R6.1.seed)) (wanted_yes (g := 3) (d := 104) rfl rfl rfl rfl (by omega) (hF 3 (by decide) (by simp [Region.binds]))) ?_ ?_ ?_ (relW_refl _) ?_
          · exact rfl
          · exact rfl
          · simp only [execOp]
            go_simp
            try go_num
            try (rw [IntKind.wrap_i64]; omega)
          · exact rfl
        · have x4 := (ev 105 rfl (by decide)).trans (hF 4 (by decide) (by simp [Region.binds]))
          have x5 := (ev 106 rfl (by decide)).trans (hF 5 (by decide) (by simp [Region.binds]))
          have CL := likeGraph_same (HO6.out W hR).2 (HO9.out W hR).2 Z6
          refine tellCw (f := 13) (args := #[gv (.slice s61 s62 s63) (.slice (some ⟨xb, xo, none⟩) 6 s66) (.slice s67 s68 s69) R6.1.next R6.1.seed, gv (.slice s91 s92 s93) (.slice s94 s95 s96) (.slice s97 s98 s99) R6.1.next R6.1.seed]) (wanted_yes (g := 3) (d := 104) rfl rfl rfl rfl (by omega) (hF 3 (by decide) (by simp [Region.binds]))) ?_ ?_ ?_ (CL.mono ?_)
          · exact rfl
          · exact rfl
          · simp only [execOp]
            go_simp
          rintro e w' ⟨rfl, b'⟩
          exact ⟨_, rfl, b', rfl⟩
        · have x6 := (ev 107 rfl (by decide)).trans (hF 6 (by decide) (by simp [Region.binds]))
          refine tellVw (v := .bool false) (wanted_yes (g := 3) (d := 104) rfl rfl rfl rfl (by omega) (hF 3 (by decide) (by simp [Region.binds]))) ?_ ?_ ?_ (relW_refl _) ?_
          · exact rfl
          · exact rfl
          · simp only [execOp]
            go_simp
            try go_num
            try (rw [IntKind.wrap_i64]; omega)
          · exact rfl
        · have x3 := (ev 104 rfl (by decide)).trans (hF 3 (by decide) (by simp [Region.binds]))
          have x7 := (ev 108 rfl (by decide)).trans (hF 7 (by decide) (by simp [Region.binds]))
          refine tellVw (v := .bool false) (wanted_none rfl) ?_ ?_ ?_ (relW_refl _) ?_
          · exact rfl
          · exact rfl
          · simp only [execOp]
            go_simp
            try go_num
            try (rw [IntKind.wrap_i64]; omega)
          · exact rfl
        · have x8 := (ev 109 rfl (by decide)).trans (hF 8 (by decide) (by simp [Region.binds]))
          refine tellVw (v := .bool false) (wanted_none rfl) ?_ ?_ ?_ (relW_refl _) ?_
          · exact rfl
          · exact rfl
          · simp only [execOp]
            go_simp
            try go_num
            try (rw [IntKind.wrap_i64]; omega)
          · exact rfl
        · refine tellVw (v := .bool true) (wanted_yes (g := 9) (d := 110) rfl rfl rfl rfl (by omega) (hF 9 (by decide) (by simp [Region.binds]))) ?_ ?_ ?_ (relW_refl _) ?_
          · exact rfl
          · exact rfl
          · simp only [execOp]
            go_simp
            try go_num
            try (rw [IntKind.wrap_i64]; omega)
          · exact rfl
        · have x10 := (ev 111 rfl (by decide)).trans (hF 10 (by decide) (by simp [Region.binds]))
          refine tellVw (v := .bool true) (wanted_yes (g := 9) (d := 110) rfl rfl rfl rfl (by omega) (hF 9 (by decide) (by simp [Region.binds]))) ?_ ?_ ?_ (relW_refl _) ?_
          · exact rfl
          · exact rfl
          · simp only [execOp]
            go_simp
            try go_num
            try (rw [IntKind.wrap_i64]; omega)
          · exact rfl
        · refine tellVw (v := .pointer (some ⟨P6, 1, none⟩)) (wanted_yes (g := 11) (d := 112) rfl rfl rfl rfl (by omega) (hF 11 (by decide) (by simp [Region.binds]))) ?_ ?_ ?_ (relW_refl _) ?_
          · exact rfl
          · exact rfl
          · simp only [execOp]
            go_simp
            try go_num
            try (rw [IntKind.wrap_i64]; omega)
          · exact rfl
        · have x12 := (ev 113 rfl (by decide)).trans (hF 12 (by decide) (by simp [Region.binds]))
          refine tellVw (v := .slice (some ⟨xb, xo, none⟩) 6 s66) (wanted_yes (g := 11) (d := 112) rfl rfl rfl rfl (by omega) (hF 11 (by decide) (by simp [Region.binds]))) ?_ ?_ ?_ (relW_refl _) ?_
          · exact rfl
          · exact rfl
          · simp only [execOp]
            go_simp
            try go_num
            try (rw [IntKind.wrap_i64]; omega)
          · exact rfl
        · refine tellVw (v := .int .i64 (n : Int)) (wanted_yes (g := 11) (d := 112) rfl rfl rfl rfl (by omega) (hF 11 (by decide) (by simp [Region.binds]))) ?_ ?_ ?_ (relW_refl _) ?_
          · exact rfl
          · exact rfl
          · simp only [execOp]
            go_simp
            try go_num
            try (rw [IntKind.wrap_i64]; omega)
          · exact rfl
        · have x13 := (ev 114 rfl (by decide)).trans (hF 13 (by decide) (by simp [Region.binds]))
          have x14 := (ev 115 rfl (by decide)).trans (hF 14 (by decide) (by simp [Region.binds]))
          refine tellVw (v := .pointer (some ⟨xb, xo + n * 2, none⟩)) (wanted_yes (g := 11) (d := 112) rfl rfl rfl rfl (by omega) (hF 11 (by decide) (by simp [Region.binds]))) ?_ ?_ ?_ (relW_refl _) ?_
          · exact rfl
          · exact rfl
          · simp only [execOp]
            go_simp
            try go_num
            try (rw [IntKind.wrap_i64]; omega)
          · exact rfl
        · have x15 := (ev 116 rfl (by decide)).trans (hF 15 (by decide) (by simp [Region.binds]))
          refine tellVw (v := rv (f0, f1)) (wanted_yes (g := 11) (d := 112) rfl rfl rfl rfl (by omega) (hF 11 (by decide) (by simp [Region.binds]))) ?_ ?_ ?_ (relW_refl _) ?_
          · exact rfl
          · exact rfl
          · simp only [execOp]
            go_simp
            try go_num
            try (rw [IntKind.wrap_i64]; omega)
          · exact rfl
        · refine tellVw (v := .pointer (some ⟨P5, 1, none⟩)) (wanted_yes (g := 11) (d := 112) rfl rfl rfl rfl (by omega) (hF 11 (by decide) (by simp [Region.binds]))) ?_ ?_ ?_ (relW_refl _) ?_
          · exact rfl
          · exact rfl
          · simp only [execOp]
            go_simp
            try go_num
            try (rw [IntKind.wrap_i64]; omega)
          · exact rfl
        · have x17 := (ev 118 rfl (by decide)).trans (hF 17 (by decide) (by simp [Region.binds]))
          refine tellVw (v := .slice (some ⟨yb, yo, none⟩) 6 s56) (wanted_yes (g := 11) (d := 112) rfl rfl rfl rfl (by omega) (hF 11 (by decide) (by simp [Region.binds]))) ?_ ?_ ?_ (relW_refl _) ?_
          · exact rfl
          · exact rfl
          · simp only [execOp]
            go_simp
            try go_num
            try (rw [IntKind.wrap_i64]; omega)
          · exact rfl
        · refine tellVw (v := .int .i64 (m : Int)) (wanted_yes (g := 11) (d := 112) rfl rfl rfl rfl (by omega) (hF 11 (by decide) (by simp [Region.binds]))) ?_ ?_ ?_ (relW_refl _) ?_
          · exact rfl
          · exact rfl
          · simp only [execOp]
            go_simp
            try go_num
            try (rw [IntKind.wrap_i64]; omega)
          · exact rfl
        · have x18 := (ev 119 rfl (by decide)).trans (hF 18 (by decide) (by simp [Region.binds]))
          have x19 := (ev 120 rfl (by decide)).trans (hF 19 (by decide) (by simp [Region.binds]))
          refine tellVw (v := .pointer (some ⟨yb, yo + m * 2, none⟩)) (wanted_yes (g := 11) (d := 112) rfl rfl rfl rfl (by omega) (hF 11 (by decide) (by simp [Region.binds]))) ?_ ?_ ?_ (relW_refl _) ?_
          · exact rfl
          · exact rfl
          · simp only [execOp]
            go_simp
            try go_num
            try (rw [IntKind.wrap_i64]; omega)
          · exact rfl
        · have x20 := (ev 121 rfl (by decide)).trans (hF 20 (by decide) (by simp [Region.binds]))
          refine tellVw (v := rv (f0, f1)) (wanted_yes (g := 11) (d := 112) rfl rfl rfl rfl (by omega) (hF 11 (by decide) (by simp [Region.binds]))) ?_ ?_ ?_ (relW_refl _) ?_
          · exact rfl
          · exact rfl
          · simp only [execOp]
            go_simp
            try go_num
            try (rw [IntKind.wrap_i64]; omega)
          · exact rfl
        · have x16 := (ev 117 rfl (by decide)).trans (hF 16 (by decide) (by simp [Region.binds]))
          have x21 := (ev 122 rfl (by decide)).trans (hF 21 (by decide) (by simp [Region.binds]))
          refine tellVw (v := .bool false) (wanted_yes (g := 11) (d := 112) rfl rfl rfl rfl (by omega) (hF 11 (by decide) (by simp [Region.binds]))) ?_ ?_ ?_ (relW_refl _) ?_
          · exact rfl
          · exact rfl
          · simp only [execOp]
            go_simp
            try go_num
            try (rw [IntKind.wrap_i64]; omega)
          · exact rfl
        · have x11 := (ev 112 rfl (by decide)).trans (hF 11 (by decide) (by simp [Region.binds]))
          have x22 := (ev 123 rfl (by decide)).trans (hF 22 (by decide) (by simp [Region.binds]))
          refine tellVw (v := .bool false) (wanted_yes (g := 9) (d := 110) rfl rfl rfl rfl (by omega) (hF 9 (by decide) (by simp [Region.binds]))) ?_ ?_ ?_ (relW_refl _) ?_
          · exact rfl
          · exact rfl
          · simp only [execOp]
            go_simp
            try go_num
            try (rw [IntKind.wrap_i64]; omega)
          · exact rfl
        · have x9 := (ev 110 rfl (by decide)).trans (hF 9 (by decide) (by simp [Region.binds]))
          have x23 := (ev 124 rfl (by decide)).trans (hF 23 (by decide) (by simp [Region.binds]))
          refine tellVw (v := .bool false) (wanted_none rfl) ?_ ?_ ?_ (relW_refl _) ?_
          · exact rfl
          · exact rfl
          · simp only [execOp]
            go_simp
            try go_num
            try (rw [IntKind.wrap_i64]; omega)
          · exact rfl
      · intro u W hR hF
        have f125 : u 125 = .bool false := hF 24 (by decide)
        clear e14 e20 b6
        subst hA0
        simp [ovr, DR14T, List.range, List.range.loop, f125]
        go_wp2
        go_meet
        exact ⟨rfl, hR⟩
  obtain ⟨rfl, HBc⟩ := hcut
  obtain ⟨Y9, hY9⟩ : ∃ Y9, Y9 = wc := ⟨_, rfl⟩
  subst hY9
  have HK' : Hid _ := keep_to HK.out HBc.out
  clear HK HBc HO5 HO6 HO9 bb6
  clear c6_0 c6_1 c6_2 c6_3 c6_4 c9_0 c9_1 c9_2 c9_3 c9_4
  have HK : Hid _ := HK'.out
  clear HK'
  have HO1 : Hid (∀ V, Below Y9.heap.size Y9 V → Below w.heap.size w V ∧ Ax V P1 (.slice s11 s12 s13) (.slice s14 s15 s16) (.slice s17 s18 s19) ms1 G1) := fun V hV => ⟨(HK.out V hV).1.1.1.1.1.1.1.1.1, (HK.out V hV).1.1.1.1.1.1.1.1.2⟩
  clear HK HR4 HR6
  cases ok : gOk G1
  · have eS : SB = ⟨#[]⟩ := by rw [← HSB.out]; unfold canA; rw [if_neg (by rw [ok]; decide)]
    subst eS
    obtain ⟨HBY, ⟨c0, c1, c2, c3, c4⟩, GA⟩ := HO1.out Y9 (Below.refl _ _)
    have C := sGraphOk_any GA Z1
    rw [ok] at C
    have HB0 : Hid (Below w.heap.size w Y9) := HBY
    clear HBY GA
    go_wp2_with (go_at_call 18; refine C.mono ?_; clear C; rintro e v1 ⟨rfl, q⟩; have HB1 : Hid (Below w.heap.size w v1) := HB0.out.trans (q.mono HB0.out.size); clear q)
    go_ret
    exact ⟨rfl, HB1.out⟩
  have R1 := right_of ok
  have eS : SB = bs (canT G1) := by rw [← HSB.out]; unfold canA; rw [if_pos ok]
  have hne2 : SB.toList.isEmpty = false := toList_more (by rw [eS, bs_size]; unfold canT lineT; simp; omega)
  have HSE : Hid (SB = bs (canT G1)) := eS
  have HR1 : Hid (Right G1) := R1
  clear eS R1 ok HSB
  have PKA := HPK.out Y9 (HO1.out Y9 (Below.refl _ _)).1 1 50 (by decide) (by decide) (by decide) (by decide)
  go_upto_region 19 with (go_at_call 19; refine PKA.mono ?_; clear PKA; rintro e v1 ⟨n, hn, rfl, rfl⟩)
  have LEN1 : G1.roots.length ≤ 1048576 ∧ G1.mourned.length ≤ 1048576 ∧ 1 ≤ G1.next ∧ G1.next ≤ 100000 ∧ (n : Int) < 50 := by
    obtain ⟨p1, p2, p3, p4, p5, _, _⟩ := head_parts HR1.out.head
    exact ⟨by omega, by omega, p4, p5, hn⟩
  have HLEN : Hid _ := LEN1
  have bref : ∀ r, refOk G1.objs r = true → r.1 = 2 → 0 ≤ r.2 ∧ r.2 ≤ 1000000 := fun r hr e => ref_bound HR1.out hr e
  have HBR : Hid (∀ i, i < G1.roots.length → (G1.roots.getD i refD).1 = 2 → 0 ≤ (G1.roots.getD i refD).2 ∧ (G1.roots.getD i refD).2 ≤ 1000000) := fun i hi e => bref _ (HR1.out.root i (by have := HR1.out.roots6; omega)) e
  have HBM : Hid (∀ i, i < G1.mourned.length → (G1.mourned.getD i refD).1 = 2 → 0 ≤ (G1.mourned.getD i refD).2 ∧ (G1.mourned.getD i refD).2 ≤ 1000000) := fun i hi e => bref _ (HR1.out.mo i hi).2 e
  have HOX : Hid (∀ V, Below v1.heap.size v1 V → Ax V P1 (.slice s11 s12 s13) (.slice s14 s15 s16) (.slice s17 s18 s19) ms1 G1) := fun V hV => (HO1.out V hV).2
  have e12 : ms1.length = s12 := by
    obtain ⟨_, ⟨⟨_, _, e, _⟩, _⟩, _⟩ := (HOX.out v1 (Below.refl _ _)).2
    injection e with _ e _
    exact e.symm
  have hlo : ms1.length = G1.objs.length := graphAt_len (HOX.out v1 (Below.refl _ _)).2
  have HLO : Hid (ms1.length = G1.objs.length) := hlo
  subst e12
  clear LEN1 bref hlo
  generalize hA0 : (Act.mk _ []) = A0
  have e3 : A0.tmps.getD 3 undef = .pointer (some ⟨P1, 0, none⟩) := by rw [← hA0]; rfl
  have e21 : A0.tmps.getD 21 undef = .int .i64 (n : Int) := by rw [← hA0]; rfl
  have sz : A0.tmps.size = 217 := by rw [← hA0]; rfl
  refine wp_region_tail (by kernel_rfl) DZ19 (by simp) ?_ 17 1 (by decide) rfl dZ19 dZ19_inj (FZ19 P1 v1.heap.size (n : Int) G1.next G1.seed s14 s15 s16 s17 s18 s19 G1.roots G1.mourned) ?_ ?_ ?_ ?_ (MZ19 v1 (n : Int) G1.next G1.seed G1.roots G1.mourned) (fun u W hB hF => ⟨hB, hF 15 (by decide), hF 16 (by decide)⟩) ?_ ?_
  · intro k o ho
    have hk : k < 18 := (Array.getElem?_eq_some_iff.1 ho).1
    rcases (show k = 0 ∨ k = 1 ∨ k = 2 ∨ k = 3 ∨ k = 4 ∨ k = 5 ∨ k = 6 ∨ k = 7 ∨ k = 8 ∨ k = 9 ∨ k = 10 ∨ k = 11 ∨ k = 12 ∨ k = 13 ∨ k = 14 ∨ k = 15 ∨ k = 16 ∨ k = 17 by omega) with rfl | rfl | rfl | rfl | rfl | rfl | rfl | rfl | rfl | rfl | rfl | rfl | rfl | rfl | rfl | rfl | rfl | rfl <;> (obtain rfl := Option.some.inj ho; simp)
  · intro k t W W' hb h
    match k, h with
    | 0, h => exact h
    | 1, h => exact h
    | 2, h => exact h
    | 3, h => exact by obtain ⟨q, c, e, ho⟩ := h; exact ⟨q, c, e, ownR_below ho hb⟩
    | 4, h => exact h
    | 5, h => exact h
    | 6, h => exact h
    | 7, h => exact by obtain ⟨q, c, e, ho⟩ := h; exact ⟨q, c, e, ownR_below ho hb⟩
    | 8, h => exact h
    | 9, h => exact h
    | 10, h => exact h
    | 11, h => exact h
    | 12, h => exact h
    | 13, h => exact h
    | 14, h => exact h
    | 15, h => exact by obtain ⟨q1, k1, q2, k2, e, h1, h2⟩ := h; exact ⟨q1, k1, q2, k2, e, ownR_below h1 hb, ownR_below h2 hb⟩
    | 16, h => exact by obtain ⟨B, e1, e2, e3⟩ := h; exact ⟨B, e1, e2, five_below e3 hb⟩
    | _ + 17, h => exact h.elim
  · intro l hC kk hkk
    have l15 : l 15 = true := hC 17 _ rfl (fun h => by omega) (Nat.le_refl _) ⟨15, .data⟩ (by simp) (by simp [Region.binds])
    have l16 : l 16 = true := hC 17 _ rfl (fun h => by omega) (Nat.le_refl _) ⟨16, .data⟩ (by simp) (by simp [Region.binds])
    have l3 : l 3 = true := hC 15 _ rfl (fun _ => l15) (by decide) ⟨3, .data⟩ (by simp) (by simp [Region.binds])
    have l7 : l 7 = true := hC 15 _ rfl (fun _ => l15) (by decide) ⟨7, .data⟩ (by simp) (by simp [Region.binds])
    have l12 : l 12 = true := hC 15 _ rfl (fun _ => l15) (by decide) ⟨12, .data⟩ (by simp) (by simp [Region.binds])
    have l14 : l 14 = true := hC 15 _ rfl (fun _ => l15) (by decide) ⟨14, .data⟩ (by simp) (by simp [Region.binds])
    have l1 : l 1 = true := hC 3 _ rfl (fun _ => l3) (by decide) ⟨1, .data⟩ (by simp) (by simp [Region.binds])
    have l2 : l 2 = true := hC 3 _ rfl (fun _ => l3) (by decide) ⟨2, .data⟩ (by simp) (by simp [Region.binds])
    have l0 : l 0 = true := hC 1 _ rfl (fun _ => l1) (by decide) ⟨0, .data⟩ (by simp) (by simp [Region.binds])
    have l5 : l 5 = true := hC 7 _ rfl (fun _ => l7) (by decide) ⟨5, .data⟩ (by simp) (by simp [Region.binds])
    have l6 : l 6 = true := hC 7 _ rfl (fun _ => l7) (by decide) ⟨6, .data⟩ (by simp) (by simp [Region.binds])
    have l4 : l 4 = true := hC 5 _ rfl (fun _ => l5) (by decide) ⟨4, .data⟩ (by simp) (by simp [Region.binds])
    have l11 : l 11 = true := hC 12 _ rfl (fun _ => l12) (by decide) ⟨11, .data⟩ (by simp) (by simp [Region.binds])
    have l9 : l 9 = true := hC 11 _ rfl (fun _ => l11) (by decide) ⟨9, .data⟩ (by simp) (by simp [Region.binds])
    have l10 : l 10 = true := hC 11 _ rfl (fun _ => l11) (by decide) ⟨10, .data⟩ (by simp) (by simp [Region.binds])
    have l8 : l 8 = true := hC 9 _ rfl (fun _ => l9) (by decide) ⟨8, .data⟩ (by simp) (by simp [Region.binds])
    have l13 : l 13 = true := hC 14 _ rfl (fun _ => l14) (by decide) ⟨13, .data⟩ (by simp) (by simp [Region.binds])
    rcases (show kk = 0 ∨ kk = 1 ∨ kk = 2 ∨ kk = 3 ∨ kk = 4 ∨ kk = 5 ∨ kk = 6 ∨ kk = 7 ∨ kk = 8 ∨ kk = 9 ∨ kk = 10 ∨ kk = 11 ∨ kk = 12 ∨ kk = 13 ∨ kk = 14 ∨ kk = 15 ∨ kk = 16 by omega) with rfl | rfl | rfl | rfl | rfl | rfl | rfl | rfl | rfl | rfl | rfl | rfl | rfl | rfl | rfl | rfl | rfl
    · exact l0
    · exact l1
    · exact l2
    · exact l3
    · exact l4
    · exact l5
    · exact l6
    · exact l7
    · exact l8
    · exact l9
    · exact l10
    · exact l11
    · exact l12
    · exact l13
    · exact l14
    · exact l15
    · exact l16
  · intro j hj o ho
    omega
  · intro k o u W hk ho hB hU hF
    have ev : ∀ s, DZ19 s = true → s < 217 → (ovr DZ19 A0 u).tmps[s]?.getD undef = u s := fun s h1 h2 => (getD_at _ _).symm.trans (eval_in h1 (by omega))
    have o3 : (ovr DZ19 A0 u).tmps[3]?.getD undef = _ := (getD_at _ _).symm.trans ((eval_out (D := DZ19) (a0 := A0) (u := u) (s := 3) rfl (by omega)).trans e3)
    have o21 : (ovr DZ19 A0 u).tmps[21]?.getD undef = _ := (getD_at _ _).symm.trans ((eval_out (D := DZ19) (a0 := A0) (u := u) (s := 21) rfl (by omega)).trans e21)
    obtain ⟨⟨d0, d1, d2, d3, d4⟩, GA⟩ := HOX.out W hB
    have bnd := HLEN.out
    rcases (show k = 0 ∨ k = 1 ∨ k = 2 ∨ k = 3 ∨ k = 4 ∨ k = 5 ∨ k = 6 ∨ k = 7 ∨ k = 8 ∨ k = 9 ∨ k = 10 ∨ k = 11 ∨ k = 12 ∨ k = 13 ∨ k = 14 ∨ k = 15 ∨ k = 16 by omega) with rfl | rfl | rfl | rfl | rfl | rfl | rfl | rfl | rfl | rfl | rfl | rfl | rfl | rfl | rfl | rfl | rfl
    all_goals obtain rfl := Option.some.inj ho
    · refine plainV (v := .pointer (some ⟨P1, 1, none⟩)) rfl rfl ?_ rfl
      simp only [execOp]
      go_simp
      try go_num
      try (rw [IntKind.wrap_i64]; omega)
    · have x0 := (ev 133 rfl (by decide)).trans (hF 0 (by decide) (by simp [Region.binds]))
      refine plainV (v := .slice s14 s15 s16) rfl rfl ?_ rfl
      simp only [execOp]
      go_simp
      try go_num
      try (rw [IntKind.wrap_i64]; omega)
    · refine plainV (v := .int .i64 n) rfl rfl ?_ rfl
      simp only [execOp]
      go_simp
      try go_num
      try (rw [IntKind.wrap_i64]; omega)
    · have x1 := (ev 134 rfl (by decide)).trans (hF 1 (by decide) (by simp [Region.binds]))
      have x2 := (ev 135 rfl (by decide)).trans (hF 2 (by decide) (by simp [Region.binds]))
      refine plainC (f := 20) (args := #[.slice s14 s15 s16, .int .i64 (n : Int)]) rfl rfl ?_ ((shift_any (n := (n : Int)) GA.2.2.1 (by have := HLEN.out; omega) (by omega) (by omega) HBR.out).mono ?_)
      · simp only [execOp]
        go_simp
      · rintro e w' ⟨q, c, rfl, ho, hb⟩
        exact ⟨_, rfl, hb, q, c, rfl, ownR_base ho hB.size⟩
    · refine plainV (v := .pointer (some ⟨P1, 2, none⟩)) rfl rfl ?_ rfl
      simp only [execOp]
      go_simp
      try go_num
      try (rw [IntKind.wrap_i64]; omega)
    · have x4 := (ev 137 rfl (by decide)).trans (hF 4 (by decide) (by simp [Region.binds]))
      refine plainV (v := .slice s17 s18 s19) rfl rfl ?_ rfl
      simp only [execOp]
      go_simp
      try go_num
      try (rw [IntKind.wrap_i64]; omega)
    · refine plainV (v := .int .i64 n) rfl rfl ?_ rfl
      simp only [execOp]
      go_simp
      try go_num
      try (rw [IntKind.wrap_i64]; omega)
    · have x5 := (ev 138 rfl (by decide)).trans (hF 5 (by decide) (by simp [Region.binds]))
      have x6 := (ev 139 rfl (by decide)).trans (hF 6 (by decide) (by simp [Region.binds]))
      refine plainC (f := 20) (args := #[.slice s17 s18 s19, .int .i64 (n : Int)]) rfl rfl ?_ ((shift_any (n := (n : Int)) GA.2.2.2 (by have := HLEN.out; omega) (by omega) (by omega) HBM.out).mono ?_)
      · simp only [execOp]
        go_simp
      · rintro e w' ⟨q, c, rfl, ho, hb⟩
        exact ⟨_, rfl, hb, q, c, rfl, ownR_base ho hB.size⟩
    · refine plainV (v := .pointer (some ⟨P1, 3, none⟩)) rfl rfl ?_ rfl
      simp only [execOp]
      go_simp
      try go_num
      try (rw [IntKind.wrap_i64]; omega)
    · have x8 := (ev 141 rfl (by decide)).trans (hF 8 (by decide) (by simp [Region.binds]))
      refine plainV (v := .int .i64 G1.next) rfl rfl ?_ rfl
      simp only [execOp]
      go_simp
      try go_num
      try (rw [IntKind.wrap_i64]; omega)
    · refine plainV (v := .int .i64 n) rfl rfl ?_ rfl
      simp only [execOp]
      go_simp
      try go_num
      try (rw [IntKind.wrap_i64]; omega)
    · have x9 := (ev 142 rfl (by decide)).trans (hF 9 (by decide) (by simp [Region.binds]))
      have x10 := (ev 143 rfl (by decide)).trans (hF 10 (by decide) (by simp [Region.binds]))
      refine plainV (v := .int .i64 (G1.next + n)) rfl rfl ?_ rfl
      simp only [execOp]
      go_simp
      try go_num
      try (rw [IntKind.wrap_i64]; omega)
    · have x11 := (ev 144 rfl (by decide)).trans (hF 11 (by decide) (by simp [Region.binds]))
      refine plainV (v := .int .i64 (G1.next + n + 5)) rfl rfl ?_ rfl
      simp only [execOp]
      go_simp
      try go_num
      try (rw [IntKind.wrap_i64]; omega)
    · refine plainV (v := .pointer (some ⟨P1, 4, none⟩)) rfl rfl ?_ rfl
      simp only [execOp]
      go_simp
      try go_num
      try (rw [IntKind.wrap_i64]; omega)
    · have x13 := (ev 146 rfl (by decide)).trans (hF 13 (by decide) (by simp [Region.binds]))
      refine plainV (v := .int .i64 G1.seed) rfl rfl ?_ rfl
      simp only [execOp]
      go_simp
      try go_num
      try (rw [IntKind.wrap_i64]; omega)
    · have h3 := hF 3 (by decide) (by simp [Region.binds])
      have h7 := hF 7 (by decide) (by simp [Region.binds])
      have x12 := (ev 145 rfl (by decide)).trans (hF 12 (by decide) (by simp [Region.binds]))
      have x14 := (ev 147 rfl (by decide)).trans (hF 14 (by decide) (by simp [Region.binds]))
      obtain ⟨q1, k1, y1, z1⟩ := h3
      obtain ⟨q2, k2, y2, z2⟩ := h7
      have x3 := (ev 136 rfl (by decide)).trans y1
      have x7 := (ev 140 rfl (by decide)).trans y2
      refine plainV (v := gv (.slice none 0 0) (.slice (some ⟨q1, 0, none⟩) G1.roots.length k1) (.slice (some ⟨q2, 0, none⟩) G1.mourned.length k2) (G1.next + n + 5) G1.seed) rfl rfl ?_ ⟨q1, k1, q2, k2, rfl, z1, z2⟩
      simp only [execOp]
      go_simp
    · refine plainB (v := .pointer (some ⟨W.heap.size, 0, none⟩)) (W' := W.alloc (gb (.slice none 0 0) (.slice none 0 0) (.slice none 0 0) 0 0)) rfl rfl ?_ ((Below.refl _ _).alloc (Nat.le_refl _) _) ⟨W.heap.size, rfl, hB.size, five_new W _ _ _ _ _ _⟩
      simp only [execOp]
      go_simp
  · intro j o u W hj ho hM
    have ev : ∀ s, DZ19 s = true → s < 217 → (ovr DZ19 A0 u).tmps[s]?.getD undef = u s := fun s h1 h2 => (getD_at _ _).symm.trans (eval_in h1 (by omega))
    have o3 : (ovr DZ19 A0 u).tmps[3]?.getD undef = _ := (getD_at _ _).symm.trans ((eval_out (D := DZ19) (a0 := A0) (u := u) (s := 3) rfl (by omega)).trans e3)
    have o21 : (ovr DZ19 A0 u).tmps[21]?.getD undef = _ := (getD_at _ _).symm.trans ((eval_out (D := DZ19) (a0 := A0) (u := u) (s := 21) rfl (by omega)).trans e21)
    rcases (show j = 0 by omega) with rfl
    all_goals obtain rfl := Option.some.inj ho
    · obtain ⟨hB, ⟨q1, k1, q2, k2, f148, z1, z2⟩, B, f22, hBB, T⟩ := hM
      have x148 := (ev 148 rfl (by decide)).trans f148
      have x22 := (ev 22 rfl (by decide)).trans f22
      obtain ⟨t0, t1, t2, t3, t4, tf⟩ := five_cells T
      have tf0 := tf 0
      have tf1 := tf 1
      have tf2 := tf 2
      have tf3 := tf 3
      have tf4 := tf 4
      have C5 : Ch [B] W _ := five_other (X := W) (b := B) (.slice none 0 0) (.slice (some ⟨q1, 0, none⟩) G1.roots.length k1) (.slice (some ⟨q2, 0, none⟩) G1.mourned.length k2) (.int .i64 (G1.next + n + 5)) (.int .i64 G1.seed)
      refine tailS (W' := (((((W.setCell ⟨B, 0, none⟩ (.slice none 0 0)).setCell ⟨B, 1, none⟩ (.slice (some ⟨q1, 0, none⟩) G1.roots.length k1)).setCell ⟨B, 2, none⟩ (.slice (some ⟨q2, 0, none⟩) G1.mourned.length k2)).setCell ⟨B, 3, none⟩ (.int .i64 (G1.next + n + 5))).setCell ⟨B, 4, none⟩ (.int .i64 G1.seed))) rfl ?_ ⟨five_belows hB hBB _ _ _ _ _, B, q1, k1, q2, k2, f22, hBB, five_sets T _ _ _ _ _, row_ch z1 C5 (fun k hk e => ?_), row_ch z2 C5 (fun k hk e => ?_)⟩
      · simp only [execOp]
        go_simp
      · rw [blk_some, List.mem_singleton] at hk
        rw [List.mem_singleton] at e
        exact ref_graph T z1 (hk.symm.trans e)
      · rw [blk_some, List.mem_singleton] at hk
        rw [List.mem_singleton] at e
        exact ref_graph T z2 (hk.symm.trans e)
  · intro u W hM
    obtain ⟨hB, B, q1, k1, q2, k2, f22, hBB, T, z1, z2⟩ := hM
    have HZB : Hid (Below v1.heap.size v1 W) := hB
    have HZT : Hid (Five W B 27 (.slice none 0 0) (.slice (some ⟨q1, 0, none⟩) G1.roots.length k1) (.slice (some ⟨q2, 0, none⟩) G1.mourned.length k2) (.int .i64 (G1.next + n + 5)) (.int .i64 G1.seed)) := T
    have HZ1 : Hid (OwnR W v1.heap.size (.slice (some ⟨q1, 0, none⟩) G1.roots.length k1) (G1.roots.map (shR n))) := z1
    have HZ2 : Hid (OwnR W v1.heap.size (.slice (some ⟨q2, 0, none⟩) G1.mourned.length k2) (G1.mourned.map (shR n))) := z2
    clear hB T z1 z2
    subst hA0
    simp [ovr, DZ19, List.range, List.range.loop, f22]
    obtain ⟨i0, hi, hz0, hz1, hz2⟩ := info_parts infoO
    have HI : Hid _ := hi
    have HZ0 : Hid _ := hz0
    have HI1 : Hid _ := hz1
    have HI2 : Hid _ := hz2
    clear hi hz0 hz1 hz2
    have hBB' : B < W.heap.size := lt_of_block HZT.out
    have nGr : W.grownBy W (some B) := grownBy_refl _ _
    have HQS : Hid (∃ o' ns, Five W B 27 o' (.slice (some ⟨q1, 0, none⟩) G1.roots.length k1) (.slice (some ⟨q2, 0, none⟩) G1.mourned.length k2) (.int .i64 (G1.next + n + 5)) (.int .i64 G1.seed) ∧ OwnG W W.heap.size o' (.slice none 0 0) (.slice none 0 0) ns (zO (n : Int) G1 0)) := ⟨_, [], HZT.out, zO_zero _ _ _ _⟩
    have HGS : Hid (W.grownBy W (some B)) := nGr
    clear nGr
    go_upto_region 20 with (fail)
    go_cut [22, 23] from 26 to 148 (fun v v' wr => v = .pointer (some ⟨B, 0, none⟩) ∧ v' = .int .i64 0 ∧ wr = W)
    case first =>
      go_wp2
      go_meet
      exact ⟨rfl, rfl, rfl⟩
    obtain ⟨rfl, rfl, hwc⟩ := hcut
    rw [hwc]
    clear hwc wc
    go_wp2_with fail
    go_loopw [23] (fun p wr => ∃ k : Nat, k ≤ ms1.length ∧ p = .int .i64 k ∧ Hid (∃ o' ns, Five wr B 27 o' (.slice (some ⟨q1, 0, none⟩) G1.roots.length k1) (.slice (some ⟨q2, 0, none⟩) G1.mourned.length k2) (.int .i64 (G1.next + n + 5)) (.int .i64 G1.seed) ∧ OwnG wr W.heap.size o' (.slice none 0 0) (.slice none 0 0) ns (zO (n : Int) G1 k)) ∧ Hid (W.grownBy wr (some B))) (fun p _ => ms1.length - (intOf p).toNat)
    case atStart => exact ⟨0, Nat.zero_le _, rfl, HQS, HGS⟩
    case round =>
      clear HQS HGS
      obtain ⟨k, hk, rfl, HQ, HG⟩ := hrel
      have hmn : ms1.length ≤ 200 := by have := HLO.out; have := (head_parts HR1.out.head).1; omega
      have BW : Below v1.heap.size v1 wr := HZB.out.grown HG.out HZB.out.size (fun k e => by injection e with e; rw [← e]; exact hBB)
      obtain ⟨⟨c0, c1, c2, c3, c4⟩, GA⟩ := HOX.out wr BW
      have szr : W.heap.size ≤ wr.heap.size := HG.out.size
      have HBW : Hid (Below v1.heap.size v1 wr) := BW
      clear BW
      by_cases hlt : k < ms1.length
      · obtain ⟨ea, ⟨⟨ao, co, eo, hlco, hcmo, _, hco⟩, hrefs⟩, _, _⟩ := GA
        injection eo with e1 e2 e3
        subst e1 e3
        have RA := hrefs _ (mem_getD hlt)
        obtain ⟨b, off, rfl, hb, hcc⟩ := hco (by omega)
        obtain ⟨x0, x1, x2, x3', x4⟩ := hcc k hlt
        obtain ⟨sa, sc, hsv, _⟩ := RA
        have RA := hrefs _ (mem_getD hlt)
        rw [hsv] at RA
        have hsl := gSize_slots Z1 _ (mem_getD hlt)
        have HAB : Hid (G1.objs.getD k obD = (ms1.getD k moD).abs) := by show _ = _; rw [← ea, abs_getD]
        obtain ⟨o', ns, T, O⟩ := HQ.out
        have HT : Hid _ := T
        have HO : Hid _ := O
        have HR : Hid _ := RA
        clear T O RA hcc hco hrefs ea HQ hcmo hlco
        generalize hxx : ms1.getD k moD = x at *
        obtain ⟨xi, xc, xf, xh, xv, xs⟩ := x
        simp only at hsv hsl HAB
        subst hsv
        clear hxx
        have hxi : 0 ≤ xi ∧ xi < 100000 := by
          have := HAB.out
          obtain ⟨q1', q2', _⟩ := obOk_lt (HR1.out.ob k (by have := HLO.out; omega))
          rw [HAB.out] at q1' q2'
          have := last_pos HR1.out k (by have := HLO.out; omega)
          have := HLEN.out
          simp only [MO.abs] at q1' q2'
          omega
        obtain ⟨Y, hY⟩ : ∃ Y, Y = wr.alloc (ob ⟨xi + (n : Int), xc, xf, xh, .slice sa xs.length sc, xs⟩) := ⟨_, rfl⟩
        have BY : Below wr.heap.size wr Y := by rw [hY]; exact (Below.refl _ wr).alloc (Nat.le_refl _) _
        have TY : Five Y wr.heap.size 47 (.int .i64 (xi + (n : Int))) (.int .i64 xc) (.int .i64 xf) (.int .i64 xh) (.slice sa xs.length sc) := by rw [hY]; exact five_new wr _ _ _ _ _ _
        have RY := refsAt_below HR.out BY
        have sY : Y.heap.size = wr.heap.size + 1 := by rw [hY]; simp
        have hsl2 : ∀ i, i < xs.length → refOk G1.objs (xs.getD i refD) = true := fun i hi => by
          have := HR1.out.sl k (by have := HLO.out; omega) i (by rw [HAB.out]; exact hi)
          rw [HAB.out] at this
          exact this
        have SH := shift_any (n := (n : Int)) RY hsl (by omega) (by omega) (fun i hi e => ref_bound HR1.out (hsl2 i hi) e)
        have HTY : Hid _ := TY
        have HBY : Hid _ := BY
        have HSY : Hid _ := sY
        clear TY BY RY HR sY hsl2
        go_wp2_with (go_at_call 20; rw [← hY]; refine SH.mono ?_; clear SH; rintro e w7 ⟨q, c, rfl, hO7, hb7⟩; refine Hid.out ?_)
        have hns : ns.length ≤ k := by
          have := congrArg List.length HO.out.1
          simp only [List.length_map, zO, List.length_take] at this
          omega
        have hn200 : ns.length ≤ 200 := by have := HLO.out; have := (head_parts HR1.out.head).1; omega
        have sY := HSY.out
        have b7 := HBY.out.trans (hb7.mono (by omega))
        have T7 := five_below HTY.out hb7
        have CH7 := one_ch w7 wr.heap.size 4 (.slice (some ⟨q, 0, none⟩) xs.length c)
        have T8 := five_set4 T7 (.slice (some ⟨q, 0, none⟩) xs.length c)
        have hqr : wr.heap.size + 1 ≤ q := by
          have := (blk_lt hO7 q (by rw [blk_some]; exact List.mem_singleton.2 rfl)).1
          omega
        have s7 := b7.size
        have O7 := row_ch (ownR_base hO7 (base' := W.heap.size) (by omega)) CH7 (fun x hx e => by
          rw [blk_some, List.mem_singleton] at hx
          rw [List.mem_singleton] at e
          omega)
        have b8 : Below wr.heap.size wr (w7.setCell ⟨wr.heap.size, 4, none⟩ (.slice (some ⟨q, 0, none⟩) xs.length c)) := b7.setCell (p := ⟨wr.heap.size, 4, none⟩) (Nat.le_refl _) _
        have hoo : ∃ a n c, o' = .slice a n c := by obtain ⟨⟨a, c, e, _⟩, _⟩ := ownO_at HO.out.2.1; exact ⟨a, _, c, e⟩
        obtain ⟨oa, on, oc, rfl⟩ := hoo
        obtain ⟨u0, _, _, _, _, _⟩ := five_cells (five_below HT.out b8)
        obtain ⟨t0, t1, t2, t3, t4, tf⟩ := five_cells T7
        have tf4 := tf 4
        obtain ⟨s0, s1, s2, s3, s4, _⟩ := five_cells T8
        obtain ⟨W9, hW9⟩ : ∃ W9, W9 = (w7.setCell ⟨wr.heap.size, 4, none⟩ (.slice (some ⟨q, 0, none⟩) xs.length c)).alloc (.cells #[.int .i64 (xi + (n : Int)), .int .i64 xc, .int .i64 xf, .int .i64 xh, .slice (some ⟨q, 0, none⟩) xs.length c] 47) := ⟨_, rfl⟩
        have B9 : Below wr.heap.size wr W9 := by rw [hW9]; exact b8.alloc b8.size _
        have O9 := ownG_below HO.out B9
        have R9 : OwnR W9 W.heap.size (.slice (some ⟨q, 0, none⟩) xs.length c) (xs.map (shR (n : Int))) := by rw [hW9]; exact ownR_below O7 ((Below.refl _ _).alloc (Nat.le_refl _) _)
        have s9 : (w7.setCell ⟨wr.heap.size, 4, none⟩ (.slice (some ⟨q, 0, none⟩) xs.length c)).heap.size = w7.heap.size := by simp
        have HNW : Hid (∀ j u, (cellsO [⟨xi + (n : Int), xc, xf, xh, .slice (some ⟨q, 0, none⟩) xs.length c, xs.map (shR (n : Int))⟩])[j]? = some u → W9.cell? ((⟨w7.heap.size, 0, none⟩ : Addr).add j) = some u) := by
          rw [hW9]
          have := World.news_of_block (heap_alloc_new (w7.setCell ⟨wr.heap.size, 4, none⟩ (.slice (some ⟨q, 0, none⟩) xs.length c)) (.cells #[.int .i64 (xi + (n : Int)), .int .i64 xc, .int .i64 xf, .int .i64 xh, .slice (some ⟨q, 0, none⟩) xs.length c] 47))
          rw [s9] at this
          exact this
        have HON : Hid (∀ u ∈ cellsO [⟨xi + (n : Int), xc, xf, xh, .slice (some ⟨q, 0, none⟩) xs.length c, xs.map (shR (n : Int))⟩], u.oneCell' = true) := cellsO_one (fun m hm => by rw [List.mem_singleton] at hm; rw [hm]; exact ⟨_, _, _, rfl⟩)
        have HAP : Hid (∀ v' w10, w10.ownsRow W.heap.size 47 5 v' (ns.length + 1) (cellsO ns ++ cellsO [⟨xi + (n : Int), xc, xf, xh, .slice (some ⟨q, 0, none⟩) xs.length c, xs.map (shR (n : Int))⟩]) → W9.grownBy w10 (Value.slice oa on oc).ownBlock → (v'.ownBlock = (Value.slice oa on oc).ownBlock ∨ v'.ownBlock = some W9.heap.size) → _) := fun v' w10 h1 h2 h3 => ownG_app O9 R9 (fun x hx e => by
          rw [blk_some, List.mem_singleton] at hx
          have := (ownG_lt HO.out x e).2
          omega) h1 h2 h3
        have HB9 : Hid _ := B9
        have HO9 : Hid _ := O9.2.1.1
        have s9' : W.heap.size ≤ W9.heap.size := Nat.le_trans szr B9.size
        clear T7 T8 O7 b7 b8 CH7 hO7 hb7 HTY HBY HSY B9 O9 R9 tf s9 x0 x1 x2 x3' x4 hY sY
        refine Go.Lib.hid ?_
        go_wp2_with (at_builtin; refine Hid.out ?_)
        refine Go.Lib.hid ?_
        rw [← hW9]
        refine wpList_append_own_at _ rfl _ _ 24 rfl W.heap.size 47 i0 (.agg #[.int .i64 0, .int .i64 0, .int .i64 0, .int .i64 0, .slice none 0 0]) 5 56 Tryz.underlying24 HI.out HZ0.out HI1.out HI2.out rfl (by decide) (.slice oa on oc) ns.length (cellsO ns) rfl HO9.out ⟨w7.heap.size, 0, none⟩ 1 1 (cellsO [⟨xi + (n : Int), xc, xf, xh, .slice (some ⟨q, 0, none⟩) xs.length c, xs.map (shR (n : Int))⟩]) rfl rfl HNW.out HON.out (by unfold maxLen; omega) (by omega) s9' ?_
        intro v' w10 hown hgrow hnil hat
        obtain ⟨AP, CH, AM⟩ := HAP.out v' w10 hown hgrow hat
        obtain ⟨g', c', rfl⟩ := ownRow_form hown (by omega)
        have T9 := five_below HT.out HB9.out
        have hblk : ∀ x ∈ blk (.slice oa on oc), W.heap.size ≤ x := fun x hx => (ownG_lt HO.out x (by simp only [gblk, List.mem_append]; exact .inl (.inl (.inl hx)))).1
        have T10 := five_ch T9 CH (fun e => by have := hblk B e; omega)
        obtain ⟨u0', _, _, _, _, uf⟩ := five_cells T10
        have uf0 := uf 0
        have eG := zO_next (n := (n : Int)) (G := G1) (k := k) (by have := HLO.out; omega) (x := (⟨xi + (n : Int), xc, xf, xh, .slice (some ⟨q, 0, none⟩) xs.length c, xs.map (shR (n : Int))⟩ : MO).abs) (by rw [HAB.out]; rfl)
        rw [eG] at AP
        have HQN : Hid (∃ o2 ns2, Five (w10.setCell ⟨B, 0, none⟩ (.slice (some ⟨g', 0, none⟩) (ns.length + 1) c')) B 27 o2 (.slice (some ⟨q1, 0, none⟩) G1.roots.length k1) (.slice (some ⟨q2, 0, none⟩) G1.mourned.length k2) (.int .i64 (G1.next + n + 5)) (.int .i64 G1.seed) ∧ OwnG (w10.setCell ⟨B, 0, none⟩ (.slice (some ⟨g', 0, none⟩) (ns.length + 1) c')) W.heap.size o2 (.slice none 0 0) (.slice none 0 0) ns2 (zO (n : Int) G1 (k + 1))) := ⟨_, _, five_set0 T10 _, ownG_ch AP (one_ch w10 B 0 _) (fun x hx e => by have := (ownG_lt AP x hx).1; rw [List.mem_singleton] at e; omega)⟩
        have HGN : Hid (W.grownBy (w10.setCell ⟨B, 0, none⟩ (.slice (some ⟨g', 0, none⟩) (ns.length + 1) c')) (some B)) := grown_row HG.out HB9.out CH hblk _ _
        clear AP CH AM T9 T10 uf hblk eG HAP HNW HON HB9 HO9 hown hgrow hat hnil HT HO u0 t0 t1 t2 t3 t4 tf4 s0 s1 s2 s3 s4 hW9 HG
        go_wp2
        refine ⟨⟨k + 1, ?_, ?_, HQN, HGN⟩, ?_⟩
        all_goals first | omega | go_num | (simp [intOf]; omega)
      · have ek : k = ms1.length := by omega
        subst ek
        obtain ⟨oz, ns, T, O⟩ := HQ.out
        have hoo : ∃ a n c, oz = .slice a n c := by obtain ⟨⟨a, c, e, _⟩, _⟩ := ownO_at O.2.1; exact ⟨a, _, c, e⟩
        obtain ⟨oa, on, oc, rfl⟩ := hoo
        have HBY : Hid (Below w.heap.size w wr) := (HO1.out wr HBW.out).1
        obtain ⟨_, _, nb1, nb2, nb3⟩ := HLEN.out
        obtain ⟨u0, _, _, u3, _, uf⟩ := five_cells T
        have HT : Hid _ := T
        have HO : Hid (OwnG wr W.heap.size (.slice oa on oc) (.slice none 0 0) (.slice none 0 0) ns (zO (n : Int) G1 ms1.length)) := O
        clear T O HQ hlt uf
        by_cases h1 : (100000 : Int) < G1.next + (n : Int) + 5
        · go_wp2_with fail
          go_ret
          exact ⟨rfl, HBY.out⟩
        by_cases h2 : (190 : Int) < (ms1.length : Int)
        · go_wp2_with fail
          go_ret
          exact ⟨rfl, HBY.out⟩
        have hns : ns.length ≤ 200 := by
          have := congrArg List.length HO.out.1
          simp only [List.length_map, zO, List.length_take] at this
          omega
        obtain ⟨W9, hW9⟩ : ∃ W9, W9 = wr.alloc (.cells #[.int .i64 (G1.next + (n : Int) + 5 - 1), .int .i64 0, .int .i64 0, .int .i64 0, .slice none 0 0] 47) := ⟨_, rfl⟩
        have B9 : Below wr.heap.size wr W9 := by rw [hW9]; exact (Below.refl _ wr).alloc (Nat.le_refl _) _
        have O9 := ownG_below HO.out B9
        have HNW : Hid (∀ j u, (cellsO [⟨G1.next + (n : Int) + 5 - 1, 0, 0, 0, .slice none 0 0, []⟩])[j]? = some u → W9.cell? ((⟨wr.heap.size, 0, none⟩ : Addr).add j) = some u) := by
          rw [hW9]
          exact World.news_of_block (heap_alloc_new wr (.cells #[.int .i64 (G1.next + (n : Int) + 5 - 1), .int .i64 0, .int .i64 0, .int .i64 0, .slice none 0 0] 47))
        have HON : Hid (∀ u ∈ cellsO [⟨G1.next + (n : Int) + 5 - 1, 0, 0, 0, .slice none 0 0, []⟩], u.oneCell' = true) := cellsO_one (fun m hm => by rw [List.mem_singleton] at hm; rw [hm]; exact ⟨_, _, _, rfl⟩)
        have HAP : Hid (∀ v' w10, w10.ownsRow W.heap.size 47 5 v' (ns.length + 1) (cellsO ns ++ cellsO [⟨G1.next + (n : Int) + 5 - 1, 0, 0, 0, .slice none 0 0, []⟩]) → W9.grownBy w10 (Value.slice oa on oc).ownBlock → (v'.ownBlock = (Value.slice oa on oc).ownBlock ∨ v'.ownBlock = some W9.heap.size) → _) := fun v' w10 h1 h2 h3 => ownG_app (m1 := ⟨G1.next + (n : Int) + 5 - 1, 0, 0, 0, .slice none 0 0, []⟩) O9 (ownR_nil _ _) (fun x hx e => by cases hx) h1 h2 h3
        have HB9 : Hid _ := B9
        have HO9 : Hid _ := O9.2.1.1
        have s9' : W.heap.size ≤ W9.heap.size := Nat.le_trans szr B9.size
        clear B9 O9
        go_wp2_with (at_builtin; refine Hid.out ?_)
        refine Go.Lib.hid ?_
        rw [← hW9]
        refine wpList_append_own_at _ rfl _ _ 24 rfl W.heap.size 47 i0 (.agg #[.int .i64 0, .int .i64 0, .int .i64 0, .int .i64 0, .slice none 0 0]) 5 56 Tryz.underlying24 HI.out HZ0.out HI1.out HI2.out rfl (by decide) (.slice oa on oc) ns.length (cellsO ns) rfl HO9.out ⟨wr.heap.size, 0, none⟩ 1 1 (cellsO [⟨G1.next + (n : Int) + 5 - 1, 0, 0, 0, .slice none 0 0, []⟩]) rfl rfl HNW.out HON.out (by unfold maxLen; omega) (by omega) s9' ?_
        intro v' w10 hown hgrow hnil hat
        obtain ⟨AP, CH, AM⟩ := HAP.out v' w10 hown hgrow hat
        obtain ⟨g', c', rfl⟩ := ownRow_form hown (by omega)
        have T9 := five_below HT.out HB9.out
        have hblk : ∀ x ∈ blk (.slice oa on oc), W.heap.size ≤ x := fun x hx => (ownG_lt HO.out x (by simp only [gblk, List.mem_append]; exact .inl (.inl (.inl hx)))).1
        have T10 := five_ch T9 CH (fun e => by have := hblk B e; omega)
        obtain ⟨u0', _, _, _, _, uf⟩ := five_cells T10
        have uf0 := uf 0
        have G11 := grown_row HG.out HB9.out CH hblk (.slice (some ⟨g', 0, none⟩) (ns.length + 1) c') 0
        have T11 := five_set0 T10 (.slice (some ⟨g', 0, none⟩) (ns.length + 1) c')
        have P11 := ownG_ch AP (one_ch w10 B 0 (.slice (some ⟨g', 0, none⟩) (ns.length + 1) c')) (fun x hx e => by have := (ownG_lt AP x hx).1; rw [List.mem_singleton] at e; omega)
        obtain ⟨w11, hw11⟩ : ∃ w11, w11 = w10.setCell ⟨B, 0, none⟩ (.slice (some ⟨g', 0, none⟩) (ns.length + 1) c') := ⟨_, rfl⟩
        rw [← hw11] at G11 T11 P11
        have eo : (ns ++ [(⟨G1.next + (n : Int) + 5 - 1, 0, 0, 0, .slice none 0 0, []⟩ : MO)]).map MO.abs = (shG (n : Int) G1).objs := by
          rw [P11.1]
          show (G1.objs.take ms1.length).map (shOb (n : Int)) ++ [_] = _
          rw [HLO.out, List.take_length]
          show _ = G1.objs.map (shOb (n : Int)) ++ [⟨G1.next + (n : Int) + 4, 0, 0, 0, []⟩]
          rw [show G1.next + (n : Int) + 4 = G1.next + (n : Int) + 5 - 1 by omega]
          rfl
        have RZ := right_sh HR1.out (n := (n : Int)) (by omega) (by omega) (by have := HLO.out; omega)
        have HSZ : Hid (gSize (ns ++ [(⟨G1.next + (n : Int) + 5 - 1, 0, 0, 0, .slice none 0 0, []⟩ : MO)]) (shG (n : Int) G1) ≤ 1048576) := right_small RZ _ eo
        have GZ : GraphAt w11 (.slice (some ⟨g', 0, none⟩) (ns.length + 1) c') (.slice (some ⟨q1, 0, none⟩) G1.roots.length k1) (.slice (some ⟨q2, 0, none⟩) G1.mourned.length k2) (ns ++ [(⟨G1.next + (n : Int) + 5 - 1, 0, 0, 0, .slice none 0 0, []⟩ : MO)]) (shG (n : Int) G1) :=
          ⟨eo, ownO_at P11.2.1, ownR_refs (own_kept HZ1.out G11 (ref_graph HZT.out HZ1.out)), ownR_refs (own_kept HZ2.out G11 (ref_graph HZT.out HZ2.out))⟩
        have HZA : Hid (∀ V, Below w11.heap.size w11 V → Ax V B (.slice (some ⟨g', 0, none⟩) (ns.length + 1) c') (.slice (some ⟨q1, 0, none⟩) G1.roots.length k1) (.slice (some ⟨q2, 0, none⟩) G1.mourned.length k2) (ns ++ [(⟨G1.next + (n : Int) + 5 - 1, 0, 0, 0, .slice none 0 0, []⟩ : MO)]) (shG (n : Int) G1)) := fun V hV => by
          obtain ⟨z0, z1, z2, z3, z4, _⟩ := five_cells (five_below T11 hV)
          exact ⟨⟨z0, z1, z2, z3, z4⟩, graphAt_below GZ hV⟩
        have eC : canA (shG (n : Int) G1) = SB := by
          unfold canA
          rw [if_pos RZ.gOk, canT_sh HR1.out, ← HSE.out]
        have HEC : Hid (canA (shG (n : Int) G1) = SB) := eC
        have HB11 : Hid (Below v1.heap.size v1 w11) := HZB.out.grown G11 HZB.out.size (fun k e => by injection e with e; rw [← e]; exact hBB)
        obtain ⟨⟨d0, d1, d2, d3, d4⟩, GA11⟩ := (HO1.out w11 HB11.out).2
        rw [hw11] at d0 d1 d2 d3 d4
        clear AP CH AM T9 T10 uf hblk HAP HNW HON HB9 HO9 hown hgrow hat hnil HT HO u0 u3 hW9 HG G11 T11 P11 eo RZ GZ eC c0 c1 c2 c3 c4 GA
        -- the other graph
        obtain ⟨XO, hXO⟩ : ∃ XO, XO = (w11.alloc (gb (.slice s11 ms1.length s13) (.slice s14 s15 s16) (.slice s17 s18 s19) G1.next G1.seed)).alloc (.cells #[] 31) := ⟨_, rfl⟩
        have BO : Below w11.heap.size w11 XO := by rw [hXO]; exact ((Below.refl _ _).alloc (Nat.le_refl _) _).alloc (by simp) _
        have sO : XO.heap.size = w11.heap.size + 2 := by rw [hXO]; simp
        have TO : Five XO w11.heap.size 27 (.slice s11 ms1.length s13) (.slice s14 s15 s16) (.slice s17 s18 s19) (.int .i64 G1.next) (.int .i64 G1.seed) := by rw [hXO]; exact five_below (five_new _ _ _ _ _ _ _) ((Below.refl _ _).alloc (Nat.le_refl _) _)
        have EO : XO.heap[w11.heap.size + 1]? = some (.cells #[] 31 (0, 0)) := by
          have := heap_alloc_new (w11.alloc (gb (.slice s11 ms1.length s13) (.slice s14 s15 s16) (.slice s17 s18 s19) G1.next G1.seed)) (.cells #[] 31)
          rw [hXO]
          simpa using this
        have e15 : G1.roots.length = s15 := (refs_len GA11.2.2.1).1
        have h6 : s15 = 6 := by have := HR1.out.roots6; omega
        subst h6
        have RO := refsAt_below GA11.2.2.1 BO
        have HRO : Hid _ := RO
        have HTO : Hid _ := TO
        have HEO : Hid _ := EO
        have HBO : Hid _ := BO
        have HSO : Hid _ := sO
        have HLEN6 : Hid _ := e15
        obtain ⟨⟨f0, f1, f2, f3, f4⟩, _⟩ := (HO1.out XO (HB11.out.trans (BO.mono HB11.out.size))).2
        rw [hXO, hw11] at f0 f1 f2 f3 f4
        clear RO TO EO BO sO GA11 e15
        have sw : w11.heap.size = w10.heap.size := by rw [hw11]; simp
        have HSW : Hid (w11.heap.size = w10.heap.size) := sw
        have EO' := HEO.out
        rw [sw] at EO'
        have HEO' : Hid _ := EO'
        clear EO' HEO
        go_wp2_with (at_builtin; rw [← hw11, ← hXO]; refine wpList_app0 HRO.out (by decide) HEO'.out rfl _ _ rfl rfl rfl ?_; intro q3 c3 w14 hq3 hO3 hb3; refine Hid.out ?_)
        have sO := HSO.out
        have B14 : Below w11.heap.size w11 w14 := HBO.out.trans (hb3.mono (by omega))
        have T14 := five_below HTO.out hb3
        rw [sw] at T14
        have hq3' : w10.heap.size + 1 ≤ q3 := by omega
        have O14 := hO3 (w10.heap.size + 1) (by omega)
        obtain ⟨_, t1, _, _, _, tf⟩ := five_cells T14
        have tf1 := tf 1
        obtain ⟨w15, hw15⟩ : ∃ w15, w15 = w14.setCell ⟨w10.heap.size, 1, none⟩ (.slice (some ⟨q3, 0, none⟩) 6 c3) := ⟨_, rfl⟩
        have C15 : Ch [w10.heap.size] w14 w15 := by rw [hw15]; exact one_ch w14 _ _ _
        have T15 : Five w15 w10.heap.size 27 (.slice s11 ms1.length s13) (.slice (some ⟨q3, 0, none⟩) 6 c3) (.slice s17 s18 s19) (.int .i64 G1.next) (.int .i64 G1.seed) := by rw [hw15]; exact five_set1 T14 _
        have O15 : OwnR w15 (w10.heap.size + 1) (.slice (some ⟨q3, 0, none⟩) 6 c3) G1.roots := row_ch O14 C15 (fun x hx e => by
          rw [blk_some, List.mem_singleton] at hx
          rw [List.mem_singleton] at e
          omega)
        have B15 : Below w11.heap.size w11 w15 := below_ch ((ch_below B14 : Ch [w10.heap.size] w11 w14).trans C15) (Nat.le_refl _) (fun k hk => by rw [List.mem_singleton] at hk; omega)
        have HT15 : Hid (Five w15 w10.heap.size 27 (.slice s11 ms1.length s13) (.slice (some ⟨q3, 0, none⟩) 6 c3) (.slice s17 s18 s19) (.int .i64 G1.next) (.int .i64 G1.seed)) := T15
        have HO15 : Hid (OwnR w15 (w10.heap.size + 1) (.slice (some ⟨q3, 0, none⟩) 6 c3) G1.roots) := O15
        have HB15 : Hid (Below w11.heap.size w11 w15) := B15
        have HQ3 : Hid (w10.heap.size + 1 ≤ q3) := hq3'
        clear sO B14 T14 hq3' O14 tf C15 T15 O15 B15 hq3 hO3 hb3 HSO HRO HTO HEO' HBO d0 d1 d2 d3 d4 f0 f1 f2 f3 f4 hXO
        refine Go.Lib.hid ?_
        go_upto_region 32 with (fail)
        rw [← hw15]
        clear t1 tf1 hw15 hw11
        have HBV : Hid (∀ V, Below w11.heap.size w11 V → Below v1.heap.size v1 V) := fun V hV => HB11.out.trans (hV.mono HB11.out.size)
        have PKB := HPK.out w15.drew ((HO1.out w15 (HBV.out _ HB15.out)).1.drew) 2 6 (by decide) (by decide) (by decide) (by decide)
        obtain ⟨_, y1, _, _, _, _⟩ := five_cells HT15.out
        have HRL : Hid (G1.roots.length = 6) := HLEN6.out
        go_region_law (go_simp; go_at_call 19; refine PKB.mono ?_; clear PKB; rintro e v ⟨m, hm, rfl, hw⟩; rw [hw]; clear hw v; have HM : Hid (m < 6) := (show m < 6 by omega); obtain ⟨p0, p1⟩ := ownR_cell HO15.out (i := m) (by rw [HRL.out]; exact HM.out); have pf0 := row_frozen HO15.out (m * 2); have pf1 := row_frozen HO15.out (m * 2 + 1))
        all_goals clear y1 p0 p1 pf0 pf1
        all_goals
          obtain ⟨w16, hw16⟩ : ∃ w16, w16 = ((w15.setCell ⟨q3, m * 2, none⟩ (.int .i64 1)).setCell ⟨q3, m * 2 + 1, none⟩ (.int .i64 77777)).drew := ⟨_, rfl⟩
          have C16 : Ch [q3] w15 w16 := by
            have h := put2_ch w15 q3 m (1, 77777)
            rw [hw16]
            exact ⟨h.os, h.tape, h.output, h.size, h.block⟩
          have hq3 := HQ3.out
          have hsw := HSW.out
          have T16 := five_ch HT15.out C16 (fun e => by rw [List.mem_singleton] at e; omega)
          have O16 : OwnR w16 (w10.heap.size + 1) (.slice (some ⟨q3, 0, none⟩) 6 c3) (G1.roots.set m (1, 77777)) := by rw [hw16]; exact ownR_set HO15.out m (1, 77777)
          have B16 : Below w11.heap.size w11 w16 := HB15.out.trans (below_ch C16 HB15.out.size (fun k hk => by rw [List.mem_singleton] at hk; omega))
          have HB16 : Hid (Below w11.heap.size w11 w16) := B16
          obtain ⟨_, GA16⟩ := (HO1.out w16 (HBV.out _ B16)).2
          have GO : GraphAt w16 (.slice s11 ms1.length s13) (.slice (some ⟨q3, 0, none⟩) 6 c3) (.slice s17 s18 s19) ms1 { G1 with roots := G1.roots.set m (1, 77777) } := ⟨GA16.1, GA16.2.1, ownR_refs O16, GA16.2.2.2⟩
          have SZO : gSize ms1 { G1 with roots := G1.roots.set m (1, 77777) } ≤ 1048576 := by
            have := Z1
            unfold gSize at this ⊢
            simpa using this
          have HCO : Hid (∀ V, Below w16.heap.size w16 V → Calls Tryz.prog 6 #[gv (.slice s11 ms1.length s13) (.slice (some ⟨q3, 0, none⟩) 6 c3) (.slice s17 s18 s19) G1.next G1.seed] V fun e w' => e = .returned (.string (canA { G1 with roots := G1.roots.set m (1, 77777) })) ∧ Below V.heap.size V w') := fun V hV => implCanon (graphAt_below GO hV) SZO (tabC_below HTB.out (HO1.out V (HBV.out V (HB16.out.trans (hV.mono HB16.out.size)))).1)
          obtain ⟨⟨z0, z1, z2, z3, z4⟩, GZ⟩ := HZA.out w16 B16
          have CZ := implCanon GZ HSZ.out (tabC_below HTB.out (HO1.out w16 (HBV.out _ B16)).1)
          rw [HEC.out] at CZ
          have hno : canA { G1 with roots := G1.roots.set m (1, 77777) } ≠ SB := by
            rw [HSE.out]
            exact canA_other HR1.out HN7.out HM.out
          have HT16 : Hid (Five w16 w10.heap.size 27 (.slice s11 ms1.length s13) (.slice (some ⟨q3, 0, none⟩) 6 c3) (.slice s17 s18 s19) (.int .i64 G1.next) (.int .i64 G1.seed)) := T16
          generalize canA { G1 with roots := G1.roots.set m (1, 77777) } = SO at *
          have hno2 : (SO.toList == SB.toList) = false := toList_other7 hno
          have hno3 : ¬ SO.toList = SB.toList := fun e => by rw [e] at hno2; simp at hno2
          clear C16 O16 T16 B16 GA16 GO SZO GZ hno hq3 hsw
          go_upto_region 33 with (fail)
          rw [← hw16]
          clear hw16
          go_wp2_with (first
            | (go_at_call 6; refine CZ.mono ?_; clear CZ; rintro e w17 ⟨rfl, b17⟩; have HB17 : Hid (Below w16.heap.size w16 w17) := b17; obtain ⟨g0, g1, g2, g3, g4, _⟩ := five_cells (five_below HT16.out b17); have CO := HCO.out w17 b17; clear b17)
            | (go_at_call 6; refine CO.mono ?_; clear CO; rintro e w18 ⟨rfl, b18⟩; have HB18 : Hid (Below w16.heap.size w16 w18) := HB17.out.trans (b18.mono HB17.out.size); clear b18))
          go_ret
          exact ⟨rfl, (HO1.out _ (HBV.out _ (HB16.out.trans (HB18.out.mono HB16.out.size)))).1⟩
end Go.Proofs.YtcboojhabolcbaaGreatDoor.gr
