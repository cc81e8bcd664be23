/-
  Chapter 6 as the program has it: copies of lists of refs and of objects, by make and copy. The drawn region of l6Copy: two lists copied into a new graph, whatever the order.
-/
import Derived.Test.YtcboojhabolcbaaGreatDoorM5
import Derived.Test.YtcboojhabolcbaaGreatDoorM4
import Derived.Test.YtcboojhabolcbaaGreatDoorM3
import Derived.Deep.Cut
import Derived.Deep.CutRange
import Derived.Test.YtcboojhabolcbaaGreatDoorM2
namespace Go.Proofs.YtcboojhabolcbaaGreatDoor.gr
open Go.RowKit rows heads
set_option maxRecDepth 100000

theorem infoSizeR : (Tryz.prog.info? 31).map (·.size) = some 2 := by kernel_rfl
theorem infoSizeO : (Tryz.prog.info? 47).map (·.size) = some 5 := by kernel_rfl
theorem splice_allR {L cs : List Value} (h : cs.length = L.length) : splice L 0 cs = cs := by simp [splice, h]
theorem srcR_of {w : World} {a : Option Addr} {cap : Nat} {es : List Rf} (h : RefsAt w (.slice a es.length cap) es) (hp : 0 < es.length) : ∃ ad, a = some ad ∧ ∀ j v, (cellsR es)[j]? = some v → w.cell? (ad.add j) = some v := by
  have h' := h
  obtain ⟨a', cap', e, _, _, _, hc⟩ := h
  injection e with e1 e2 e3
  subst e1
  obtain ⟨b, off, rfl, _⟩ := hc hp
  exact ⟨_, rfl, refs_news h'⟩
theorem objs_news {w : World} {ad : Addr} {n cap : Nat} {ms : List MO} (h : OrowAt w (.slice (some ad) n cap) ms) : ∀ j u, (cellsO ms)[j]? = some u → w.cell? (ad.add j) = some u := by
  intro j u hj
  obtain ⟨a', cap', e, _, _, _, hc⟩ := h
  injection e with e1 e2 e3
  subst e1
  have hlt : j < ms.length * 5 := by
    have := (List.getElem?_eq_some_iff.1 hj).1
    rw [cellsO_length] at this
    exact this
  obtain ⟨b, off, e1, _, hcc⟩ := hc (by omega)
  injection e1 with e1
  subst e1
  obtain ⟨d0, d1, d2, d3, d4⟩ := hcc (j / 5) (by omega)
  obtain ⟨c0, c1, c2, c3, c4⟩ := cellsO_at ms (j / 5) (by omega)
  have hadd : (⟨b, off, none⟩ : Addr).add j = ⟨b, off + j, none⟩ := by unfold Addr.add; split <;> simp_all
  rw [hadd]
  rcases (show j % 5 = 0 ∨ j % 5 = 1 ∨ j % 5 = 2 ∨ j % 5 = 3 ∨ j % 5 = 4 by omega) with hm | hm | hm | hm | hm
  · have ej : j / 5 * 5 = j := by omega
    have eo : off + j / 5 * 5 = off + j := by omega
    rw [ej] at c0; rw [eo] at d0
    rw [c0] at hj; rw [← hj]; exact d0
  · have ej : j / 5 * 5 + 1 = j := by omega
    have eo : off + j / 5 * 5 + 1 = off + j := by omega
    rw [ej] at c1; rw [eo] at d1
    rw [c1] at hj; rw [← hj]; exact d1
  · have ej : j / 5 * 5 + 2 = j := by omega
    have eo : off + j / 5 * 5 + 2 = off + j := by omega
    rw [ej] at c2; rw [eo] at d2
    rw [c2] at hj; rw [← hj]; exact d2
  · have ej : j / 5 * 5 + 3 = j := by omega
    have eo : off + j / 5 * 5 + 3 = off + j := by omega
    rw [ej] at c3; rw [eo] at d3
    rw [c3] at hj; rw [← hj]; exact d3
  · have ej : j / 5 * 5 + 4 = j := by omega
    have eo : off + j / 5 * 5 + 4 = off + j := by omega
    rw [ej] at c4; rw [eo] at d4
    rw [c4] at hj; rw [← hj]; exact d4
theorem srcO_of {w : World} {a : Option Addr} {cap : Nat} {ms : List MO} (h : OrowAt w (.slice a ms.length cap) ms) (hp : 0 < ms.length) : ∃ ad, a = some ad ∧ ∀ j v, (cellsO ms)[j]? = some v → w.cell? (ad.add j) = some v := by
  have h' := h
  obtain ⟨a', cap', e, _, _, _, hc⟩ := h
  injection e with e1 e2 e3
  subst e1
  obtain ⟨b, off, rfl, _⟩ := hc hp
  exact ⟨_, rfl, objs_news h'⟩
/-- What a made row holds, whatever it is: so many cells. -/
theorem own_cellsR {w : World} {base g n sz : Nat} {e : TypeId} {cs : List Value} (h : w.ownsRow base e sz (.slice (some ⟨g, 0, none⟩) n n) n cs) : w.heap[g]? = some (.cells cs.toArray e (0, 0)) ∧ cs.length = n * sz := by
  obtain ⟨h0, ⟨h1, _⟩ | ⟨g', cap, cur, h1, hg, hh, hle, hm, hs, ht⟩⟩ := h
  · cases h1
  · injection h1 with e1 e2 e3
    injection e1 with e1
    injection e1 with e1
    subst e1 e3
    refine ⟨?_, h0⟩
    rw [hh]
    rw [List.take_of_length_le (by simpa using Nat.le_of_eq hs)] at ht
    rw [← ht]

theorem copiedR_any {w : World} {v : Value} {es : List Rf} (h : RefsAt w v es) (hl : es.length ≤ 1048576) :
    Calls Tryz.prog 83 #[v] w fun e w' => e = .returned (.slice (some ⟨w.heap.size, 0, none⟩) es.length es.length) ∧ FullR w' w.heap.size es ∧ Below w.heap.size w w' := by
  have h' := h
  obtain ⟨a, cap, rfl, hlc, hcm, _, hc⟩ := h
  obtain ⟨i0, hi, hz0, hz1, hz2⟩ := info_parts infoR
  clear hc
  go_enter Tryz.func83, Tryz.ntmps83
  go_upto_region 2 with (at_make; refine wpList_make_full _ rfl _ _ 25 rfl w.heap.size 31 i0 (.agg #[.int .i64 0, .int .i64 0]) 2 Tryz.underlying25 hi hz0 hz1 _ _ _ _ es.length rfl rfl rfl rfl (by rw [hz2]; omega) (by unfold maxLen; omega) (Nat.le_refl _) ?_; intro w1 hown hgrow)
  obtain ⟨F0, l0⟩ := own_cellsR hown
  have B0 : Below w.heap.size w w1 := (Below.refl _ _).grown hgrow (Nat.le_refl _) (fun k e => by cases e)
  have SRC := srcR_of (refsAt_below h' B0)
  have hn : (cellsR es).length = Nat.min es.length es.length * 2 := by rw [show Nat.min es.length es.length = es.length from Nat.min_self _, cellsR_length]
  have hp0 : 0 < (cellsR es).length → some (⟨w.heap.size, 0, none⟩ : Addr) = some ⟨w.heap.size, 0, none⟩ ∧ ∃ ad, a = some ad ∧ ∀ j v, (cellsR es)[j]? = some v → w1.cell? (ad.add j) = some v := fun hp => ⟨rfl, SRC (by rw [cellsR_length] at hp; omega)⟩
  generalize (madeCells (Value.agg #[.int .i64 0, .int .i64 0]).cells (es.length * 2)).toList = L at *
  have hfit : 0 + (cellsR es).length ≤ L.length := by rw [cellsR_length, l0]; omega
  have HL : Hid ((cellsR es).length = L.length) := by show _ = _; rw [cellsR_length, l0]
  have HN : Hid _ := hn
  have HF : Hid _ := hfit
  have HP : Hid _ := hp0
  have HF0 : Hid _ := F0
  clear hown hgrow hn hfit hp0 F0 SRC l0
  go_wp2_with (refine copyk.wpList_copy_k rfl (.tmp 7) (.tmp 8) 25 25 rfl 31 2 (by decide) Tryz.underlying25 infoSizeR (some ⟨w.heap.size, 0, none⟩) a es.length es.length es.length cap rfl rfl w.heap.size 0 L 31 HF0.out (cellsR es) HN.out HP.out HF.out (cellsR_one _) w.heap.size w B0 (Nat.le_refl _) ?_; intro w2 hF hO hB)
  have F2 : FullR w2 w.heap.size es := by
    have := hF.out
    rw [splice_allR HL.out] at this
    exact this
  go_ret
  exact ⟨rfl, F2, hB⟩

theorem copiedO_any {w : World} {v : Value} {ms : List MO} (h : OrowAt w v ms) (hsl : Slices ms) (hl : ms.length ≤ 1048576) :
    Calls Tryz.prog 84 #[v] w fun e w' => e = .returned (.slice (some ⟨w.heap.size, 0, none⟩) ms.length ms.length) ∧ FullO w' w.heap.size ms ∧ Below w.heap.size w w' := by
  have h' := h
  obtain ⟨a, cap, rfl, hlc, hcm, _, hc⟩ := h
  obtain ⟨i0, hi, hz0, hz1, hz2⟩ := info_parts infoO
  clear hc
  go_enter Tryz.func84, Tryz.ntmps84
  go_upto_region 2 with (at_make; refine wpList_make_full _ rfl _ _ 24 rfl w.heap.size 47 i0 (.agg #[.int .i64 0, .int .i64 0, .int .i64 0, .int .i64 0, .slice none 0 0]) 5 Tryz.underlying24 hi hz0 hz1 _ _ _ _ ms.length rfl rfl rfl rfl (by rw [hz2]; omega) (by unfold maxLen; omega) (Nat.le_refl _) ?_; intro w1 hown hgrow)
  obtain ⟨F0, l0⟩ := own_cellsR hown
  have B0 : Below w.heap.size w w1 := (Below.refl _ _).grown hgrow (Nat.le_refl _) (fun k e => by cases e)
  have SRC := srcO_of (orowAt_below h' B0)
  have hn : (cellsO ms).length = Nat.min ms.length ms.length * 5 := by rw [show Nat.min ms.length ms.length = ms.length from Nat.min_self _, cellsO_length]
  have hp0 : 0 < (cellsO ms).length → some (⟨w.heap.size, 0, none⟩ : Addr) = some ⟨w.heap.size, 0, none⟩ ∧ ∃ ad, a = some ad ∧ ∀ j v, (cellsO ms)[j]? = some v → w1.cell? (ad.add j) = some v := fun hp => ⟨rfl, SRC (by rw [cellsO_length] at hp; omega)⟩
  generalize (madeCells (Value.agg #[.int .i64 0, .int .i64 0, .int .i64 0, .int .i64 0, .slice none 0 0]).cells (ms.length * 5)).toList = L at *
  have hfit : 0 + (cellsO ms).length ≤ L.length := by rw [cellsO_length, l0]; omega
  have HL : Hid ((cellsO ms).length = L.length) := by show _ = _; rw [cellsO_length, l0]
  have HN : Hid _ := hn
  have HF : Hid _ := hfit
  have HP : Hid _ := hp0
  have HF0 : Hid _ := F0
  have H1 : Hid _ := cellsO_one hsl
  clear hown hgrow hn hfit hp0 F0 SRC l0
  go_wp2_with (refine copyk.wpList_copy_k rfl (.tmp 7) (.tmp 8) 24 24 rfl 47 5 (by decide) Tryz.underlying24 infoSizeO (some ⟨w.heap.size, 0, none⟩) a ms.length ms.length ms.length cap rfl rfl w.heap.size 0 L 47 HF0.out (cellsO ms) HN.out HP.out HF.out H1.out w.heap.size w B0 (Nat.le_refl _) ?_; intro w2 hF hO hB)
  have F2 : FullO w2 w.heap.size ms := by
    have := hF.out
    rw [splice_allR HL.out] at this
    exact this
  go_ret
  exact ⟨rfl, F2, hB⟩
end Go.Proofs.YtcboojhabolcbaaGreatDoor.gr
namespace Go.Proofs.YtcboojhabolcbaaGreatDoor.gr
open Go.RowKit rows heads region
set_option maxRecDepth 100000

/-- The block of a value. -/
def bOf : Value → Nat
  | .slice (some a) _ _ => a.block
  | .pointer (some a) => a.block
  | _ => 0
def grp (k : Nat) : Nat := if k = 0 ∨ k = 3 then 1 else if k = 4 ∨ k = 7 then 2 else if k = 13 then 3 else 0
abbrev dstCg (k : Nat) : Nat := if k = 13 then 3 else 6 + k
def DCg (s : Nat) : Bool := s == 3 || (decide (6 ≤ s) && decide (s ≤ 18))
theorem dstC_inj (k : Nat) (hk : k < 14) : ∀ j, j < 14 → dstCg j = dstCg k → j = k := by
  intro j hj e
  unfold dstCg at e
  split at e <;> split at e <;> omega
/-- What is known of the slot of the operation k. -/
def FCg (n0 P : Nat) (r m : Value) (G : Gr) (k : Nat) (t : Value) (w : World) : Prop :=
  match k with
  | 0 => ∃ g, t = .slice (some ⟨g, 0, none⟩) 0 0 ∧ w.heap[g]? = some (.cells #[] 31 (0, 0))
  | 1 => t = .pointer (some ⟨P, 1, none⟩)
  | 2 => t = r
  | 3 => ∃ q c, n0 ≤ q ∧ t = .slice (some ⟨q, 0, none⟩) G.roots.length c ∧ OwnR w n0 t G.roots
  | 4 => ∃ g, t = .slice (some ⟨g, 0, none⟩) 0 0 ∧ w.heap[g]? = some (.cells #[] 31 (0, 0))
  | 5 => t = .pointer (some ⟨P, 2, none⟩)
  | 6 => t = m
  | 7 => ∃ q c, n0 ≤ q ∧ t = .slice (some ⟨q, 0, none⟩) G.mourned.length c ∧ OwnR w n0 t G.mourned
  | 8 => t = .pointer (some ⟨P, 3, none⟩)
  | 9 => t = .int .i64 G.next
  | 10 => t = .pointer (some ⟨P, 4, none⟩)
  | 11 => t = .int .i64 G.seed
  | 12 => True
  | 13 => ∃ B, n0 ≤ B ∧ t = .pointer (some ⟨B, 0, none⟩) ∧ Five w B 27 (.slice none 0 0) (.slice none 0 0) (.slice none 0 0) (.int .i64 0) (.int .i64 0)
  | _ => False
theorem FC_below {n0 P : Nat} {r m : Value} {G : Gr} {w w' : World} (hb : Below w.heap.size w w') (k : Nat) (t : Value) (h : FCg n0 P r m G k t w) : FCg n0 P r m G k t w' := by
  have B : ∀ {g : Nat} {o : Obj}, w.heap[g]? = some o → w'.heap[g]? = some o := fun ho => (hb.block _ (Array.getElem?_eq_some_iff.1 ho).1).trans ho
  match k, h with
  | 0, ⟨g, h1, h2⟩ => exact ⟨g, h1, B h2⟩
  | 1, h => exact h
  | 2, h => exact h
  | 3, ⟨q, c, h1, h2, h3⟩ => exact ⟨q, c, h1, h2, ownR_below h3 hb⟩
  | 4, ⟨g, h1, h2⟩ => exact ⟨g, h1, B h2⟩
  | 5, h => exact h
  | 6, h => exact h
  | 7, ⟨q, c, h1, h2, h3⟩ => exact ⟨q, c, h1, h2, ownR_below h3 hb⟩
  | 8, h => exact h
  | 9, h => exact h
  | 10, h => exact h
  | 11, h => exact h
  | 12, _ => exact trivial
  | 13, ⟨B, h1, h2, h3⟩ => exact ⟨B, h1, h2, five_below h3 hb⟩
  | _ + 14, h => exact h.elim

/-- The new graph lies there. -/
def DoneC (n0 : Nat) (G : Gr) (t : Value) (w : World) : Prop := ∃ B q1 c1 q2 c2, t = .pointer (some ⟨B, 0, none⟩) ∧ n0 ≤ B ∧ n0 ≤ q1 ∧ n0 ≤ q2 ∧ B ≠ q1 ∧ B ≠ q2 ∧ q1 ≠ q2 ∧ Five w B 27 (.slice none 0 0) (.slice (some ⟨q1, 0, none⟩) G.roots.length c1) (.slice (some ⟨q2, 0, none⟩) G.mourned.length c2) (.int .i64 G.next) (.int .i64 G.seed) ∧ OwnR w n0 (.slice (some ⟨q1, 0, none⟩) G.roots.length c1) G.roots ∧ OwnR w n0 (.slice (some ⟨q2, 0, none⟩) G.mourned.length c2) G.mourned

structure IC (w0 : World) (n0 P : Nat) (r m : Value) (G : Gr) (l : Array Bool) (u : Nat → Value) (w : World) : Prop where
  below : Below w0.heap.size w0 w
  fact : ∀ k, k < 14 → l.getD k false = true → FCg n0 P r m G k (u (dstCg k)) w
  agg : l.getD 12 false = true → u 18 = gv (.slice none 0 0) (u 9) (u 13) G.next G.seed
  lt : ∀ i, i < 14 → grp i ≠ 0 → l.getD i false = true → n0 ≤ bOf (u (dstCg i)) ∧ bOf (u (dstCg i)) < w.heap.size
  dj : ∀ i j, i < 14 → j < 14 → grp i ≠ 0 → grp j ≠ 0 → grp i ≠ grp j → l.getD i false = true → l.getD j false = true → bOf (u (dstCg i)) ≠ bOf (u (dstCg j))
  late : l.getD 14 false = false
  join : l.getD 12 false = true → l.getD 3 false = true ∧ l.getD 7 false = true

variable {w0 : World} {n0 P : Nat} {r m : Value} {G : Gr} {l : Array Bool} {u : Nat → Value} {w : World}

theorem IC.step (h : IC w0 n0 P r m G l u w) {k : Nat} (hk : k < 14) (hlk : l.getD k false = false) {v : Value} {w' : World} (hb : Below w.heap.size w w') (hv : FCg n0 P r m G k v w')
    (ha : k = 12 → v = gv (.slice none 0 0) (u 9) (u 13) G.next G.seed ∧ l.getD 3 false = true ∧ l.getD 7 false = true)
    (hg : grp k ≠ 0 → n0 ≤ bOf v ∧ bOf v < w'.heap.size ∧ (w.heap.size ≤ bOf v ∨ ∃ i, i < 14 ∧ grp i = grp k ∧ l.getD i false = true ∧ bOf v = bOf (u (dstCg i)))) :
    IC w0 n0 P r m G (l.setIfInBounds k true) (upd u (dstCg k) v) w' := by
  have ne : ∀ j, j < 14 → j ≠ k → upd u (dstCg k) v (dstCg j) = u (dstCg j) := fun j hj e => by
    have : ¬ dstCg j = dstCg k := fun e' => e (dstC_inj k hk j hj e')
    simp only [upd, this, if_false]
  have eq : upd u (dstCg k) v (dstCg k) = v := by simp [upd]
  have lo : ∀ j, j ≠ k → (l.setIfInBounds k true).getD j false = l.getD j false := fun j e => getD_other l (Ne.symm e)
  refine ⟨h.below.trans (hb.mono h.below.size), facts_put (dst := dstCg) (dstC_inj k hk) h.fact (fun j _ _ _ t => FC_below hb j t) hv, fun h12 => ?_, fun i hi hgi hli => ?_, fun i j hi hj hgi hgj hne hli hlj => ?_, ?_, fun h12 => ?_⟩
  · by_cases e : k = 12
    · subst e
      have := (ha rfl).1
      have e1 := eq
      have e2 := ne 3 (by omega) (by omega)
      have e3 := ne 7 (by omega) (by omega)
      show upd u (dstCg 12) v (dstCg 12) = gv _ (upd u (dstCg 12) v (dstCg 3)) (upd u (dstCg 12) v (dstCg 7)) _ _
      rw [e1, e2, e3]
      exact this
    · rw [lo 12 (Ne.symm e)] at h12
      obtain ⟨j3, j7⟩ := h.join h12
      have k3 : k ≠ 3 := fun e' => by rw [e', j3] at hlk; cases hlk
      have k7 : k ≠ 7 := fun e' => by rw [e', j7] at hlk; cases hlk
      have := h.agg h12
      show upd u (dstCg k) v (dstCg 12) = gv _ (upd u (dstCg k) v (dstCg 3)) (upd u (dstCg k) v (dstCg 7)) _ _
      rw [ne 12 (by omega) (Ne.symm e), ne 3 (by omega) (Ne.symm k3), ne 7 (by omega) (Ne.symm k7)]
      exact this
  · by_cases e : i = k
    · subst e
      rw [eq]
      exact ⟨(hg hgi).1, (hg hgi).2.1⟩
    · rw [lo i e] at hli
      rw [ne i hi e]
      have := h.lt i hi hgi hli
      exact ⟨this.1, Nat.lt_of_lt_of_le this.2 hb.size⟩
  · by_cases e : i = k
    · subst e
      have e' : j ≠ i := fun e' => hne (by rw [e'])
      rw [lo j e'] at hlj
      rw [eq, ne j hj e']
      rcases (hg hgi).2.2 with h1 | ⟨i', hi', hgi', hli', h1⟩
      · have := (h.lt j hj hgj hlj).2
        omega
      · rw [h1]
        exact h.dj i' j hi' hj (by rw [hgi']; exact hgi) hgj (by rw [hgi']; exact hne) hli' hlj
    · rw [lo i e] at hli
      rw [ne i hi e]
      by_cases e' : j = k
      · subst e'
        rw [eq]
        rcases (hg hgj).2.2 with h1 | ⟨i', hi', hgi', hli', h1⟩
        · have := (h.lt i hi hgi hli).2
          omega
        · rw [h1]
          exact h.dj i i' hi hi' hgi (by rw [hgi']; exact hgj) (by rw [hgi']; exact hne) hli hli'
      · rw [lo j e'] at hlj
        rw [ne j hj e']
        exact h.dj i j hi hj hgi hgj hne hli hlj
  · rw [lo 14 (by omega)]
    exact h.late
  · by_cases e : k = 12
    · obtain ⟨_, j3, j7⟩ := ha e
      rw [lo 3 (by omega), lo 7 (by omega)]
      exact ⟨j3, j7⟩
    · rw [lo 12 (Ne.symm e)] at h12
      obtain ⟨j3, j7⟩ := h.join h12
      have k3 : k ≠ 3 := fun e' => by rw [e', j3] at hlk; cases hlk
      have k7 : k ≠ 7 := fun e' => by rw [e', j7] at hlk; cases hlk
      rw [lo 3 (Ne.symm k3), lo 7 (Ne.symm k7)]
      exact ⟨j3, j7⟩
/-- An operation that makes no list. -/
theorem IC.plain (h : IC w0 n0 P r m G l u w) {k : Nat} (hk : k < 14) (hlk : l.getD k false = false) (h12 : k ≠ 12) (hg0 : grp k = 0) {v : Value} (hv : FCg n0 P r m G k v w) :
    IC w0 n0 P r m G (l.setIfInBounds k true) (upd u (dstCg k) v) w := h.step hk hlk (Below.refl _ _) hv (fun e => absurd e h12) (fun e => absurd hg0 e)

theorem run_nil0 (w : World) : (Instr.buildSlice 25 0 #[]).run Tryz.prog w = .ok (.slice (some ⟨w.heap.size, 0, none⟩) 0 0) (w.alloc (.cells #[] 31)) := by
  go_simp
theorem run_fa (b k : Nat) (hk : k < 5) (w : World) : (Instr.fieldAt 27 (.pointer (some ⟨b, 0, none⟩)) k).run Tryz.prog w = .ok (.pointer (some ⟨b, k, none⟩)) w := by
  rcases (show k = 0 ∨ k = 1 ∨ k = 2 ∨ k = 3 ∨ k = 4 by omega) with rfl | rfl | rfl | rfl | rfl <;> go_simp
end Go.Proofs.YtcboojhabolcbaaGreatDoor.gr
