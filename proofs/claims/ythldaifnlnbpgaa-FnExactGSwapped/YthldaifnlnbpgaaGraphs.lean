/-
  Graphs in memory, and what the laws do with them.
  Made from the template Graphs.
-/
import Derived.Test.YthldaifnlnbpgaaObjsM
namespace Go.Proofs.Ythldaifnlnbpgaa.gr
open Go.RowKit rows heads
set_option maxRecDepth 100000

structure Gr where
  objs : List Ob
  roots : List Rf
  mourned : List Rf
  next : Int
  seed : Int
/-- A graph as a value. -/
abbrev gv (o r m : Value) (n s : Int) : Value := .agg #[o, r, m, .int .i64 n, .int .i64 s]
abbrev gb (o r m : Value) (n s : Int) : Obj := .cells #[o, r, m, .int .i64 n, .int .i64 s] 30
/-- A graph that may be read. -/
def GraphAt (w : World) (o r m : Value) (ms : List MO) (G : Gr) : Prop := ms.map MO.abs = G.objs ∧ ObjsAt w o ms ∧ RefsAt w r G.roots ∧ RefsAt w m G.mourned
def gblk (o r m : Value) (ms : List MO) : List Nat := blk o ++ blks ms ++ blk r ++ blk m
/-- A graph of the call's own, no two rows in one block. -/
def OwnG (w : World) (base : Nat) (o r m : Value) (ms : List MO) (G : Gr) : Prop := ms.map MO.abs = G.objs ∧ OwnO w base o ms ∧ OwnR w base r G.roots ∧ OwnR w base m G.mourned ∧ (gblk o r m ms).Nodup
theorem ownG_at {w : World} {base : Nat} {o r m : Value} {ms : List MO} {G : Gr} (h : OwnG w base o r m ms G) : GraphAt w o r m ms G := ⟨h.1, ownO_at h.2.1, ownR_refs h.2.2.1, ownR_refs h.2.2.2.1⟩
theorem graphAt_below {w w' : World} {o r m : Value} {ms : List MO} {G : Gr} (h : GraphAt w o r m ms G) (hb : Below w.heap.size w w') : GraphAt w' o r m ms G := ⟨h.1, objsAt_below h.2.1 hb, refsAt_below h.2.2.1 hb, refsAt_below h.2.2.2 hb⟩
theorem ownG_below {w w' : World} {base : Nat} {o r m : Value} {ms : List MO} {G : Gr} (h : OwnG w base o r m ms G) (hb : Below w.heap.size w w') : OwnG w' base o r m ms G := ⟨h.1, ownO_below h.2.1 hb, ownR_below h.2.2.1 hb, ownR_below h.2.2.2.1 hb, h.2.2.2.2⟩
theorem ownG_base {w : World} {base base' : Nat} {o r m : Value} {ms : List MO} {G : Gr} (h : OwnG w base o r m ms G) (hb : base' ≤ base) : OwnG w base' o r m ms G := ⟨h.1, ownO_base h.2.1 hb, ownR_base h.2.2.1 hb, ownR_base h.2.2.2.1 hb, h.2.2.2.2⟩
theorem ownG_lt {w : World} {base : Nat} {o r m : Value} {ms : List MO} {G : Gr} (h : OwnG w base o r m ms G) : ∀ k ∈ gblk o r m ms, base ≤ k ∧ k < w.heap.size := by
  intro k hk
  simp only [gblk, List.mem_append] at hk
  rcases hk with ((hk | hk) | hk) | hk
  · exact blks_lt h.2.1 k (by simp only [List.mem_append]; exact .inl hk)
  · exact blks_lt h.2.1 k (by simp only [List.mem_append]; exact .inr hk)
  · exact blk_lt h.2.2.1 k hk
  · exact blk_lt h.2.2.2.1 k hk
theorem ownG_ch {S : List Nat} {w w' : World} {base : Nat} {o r m : Value} {ms : List MO} {G : Gr} (h : OwnG w base o r m ms G) (hc : Ch S w w') (hd : ∀ k ∈ gblk o r m ms, k ∉ S) : OwnG w' base o r m ms G := by
  refine ⟨h.1, ownO_ch h.2.1 hc (fun k hk => hd k ?_), row_ch h.2.2.1 hc (fun k hk => hd k ?_), row_ch h.2.2.2.1 hc (fun k hk => hd k ?_), h.2.2.2.2⟩
  · simp only [gblk, List.mem_append] at hk ⊢; exact .inl (.inl hk)
  · simp only [gblk, List.mem_append] at hk ⊢; exact .inl (.inr hk)
  · simp only [gblk, List.mem_append] at hk ⊢; exact .inr hk

/-- How much a graph holds. -/
def gSize (ms : List MO) (G : Gr) : Nat := ms.length + slotsLen ms + G.roots.length + G.mourned.length
theorem gSize_slots {ms : List MO} {G : Gr} (h : gSize ms G ≤ 1048576) : ∀ m ∈ ms, m.slots.length ≤ 1048576 := fun m hm => by
  have := slots_le hm
  unfold gSize at h
  omega

set_option maxHeartbeats 1000000 in
theorem szGraph_any {w : World} {o r m : Value} {ms : List MO} {G : Gr} (h : GraphAt w o r m ms G) (left : Nat) (hleft : left ≤ 1048576) :
    Calls Try.prog 5 #[gv o r m G.next G.seed, .int .i64 left] w fun e w' => e = .returned (.int .i64 (if gSize ms G ≤ left then (left : Int) - gSize ms G else -1)) ∧ Below w.heap.size w w' := by
  obtain ⟨_, hO, hR, hM⟩ := h
  have B : Below w.heap.size w (w.alloc (.cells #[o, r, m, .int .i64 G.next, .int .i64 G.seed] 25)) := (Below.refl _ w).alloc (Nat.le_refl _) _
  have SO := szObjS_any (objsAt_below hO B) left hleft
  have hR1 := refsAt_below hR B
  have hM1 := refsAt_below hM B
  obtain ⟨a1, n1, c1, e1⟩ : ∃ a n c, o = .slice a n c := by obtain ⟨⟨a, c, e, _⟩, _⟩ := hO; exact ⟨a, _, c, e⟩
  obtain ⟨a2, n2, c2, e2⟩ := refs_slice hR
  obtain ⟨a3, n3, c3, e3⟩ := refs_slice hM
  subst e1 e2 e3
  obtain ⟨RV, hRV⟩ : ∃ RV : Int, (if gSize ms G ≤ left then (left : Int) - gSize ms G else -1) = RV := ⟨_, rfl⟩
  rw [hRV]
  have HRV : Hid _ := hRV
  have T := five_new w 25 (.slice a1 n1 c1) (.slice a2 n2 c2) (.slice a3 n3 c3) (.int .i64 G.next) (.int .i64 G.seed)
  have HT : Hid _ := T
  have HB : Hid _ := B
  have HR1 : Hid _ := hR1
  have HM1 : Hid _ := hM1
  clear hRV B hO hR hM hR1 hM1 T
  generalize G.next = gn at *
  generalize G.seed = gs at *
  go_enter Try.func5, Try.ntmps5
  go_wp2_with fail
  generalize (w.alloc (Obj.cells #[.slice a1 n1 c1, .slice a2 n2 c2, .slice a3 n3 c3, .int .i64 gn, .int .i64 gs] 25)) = X at *
  refine SO.mono ?_
  rintro e w2 ⟨rfl, b2⟩
  have U2 := five_below HT.out b2
  have hR2 := refsAt_below HR1.out b2
  have hM2 := refsAt_below HM1.out b2
  have B2 := HB.out.trans (b2.mono HB.out.size)
  clear SO HT HR1 HM1 HB b2
  by_cases d1 : ms.length + slotsLen ms ≤ left
  · obtain ⟨l1, hl1⟩ : ∃ l1 : Nat, szO ms left = (l1 : Int) ∧ l1 + (ms.length + slotsLen ms) = left := ⟨left - (ms.length + slotsLen ms), by unfold szO; rw [if_pos d1]; omega, by omega⟩
    have SR := szRefS_any hR2 l1 (by omega)
    rw [hl1.1]
    have n1 : ¬ (l1 : Int) < 0 := by omega
    obtain ⟨k0, k1, k2, k3, k4, _⟩ := five_cells U2
    have HB2 : Hid _ := B2
    have HM2 : Hid _ := hM2
    clear U2 B2 hR2 hM2
    by_cases d2 : G.roots.length ≤ l1
    · rw [if_pos d2] at SR
      obtain ⟨l2, hl2⟩ : ∃ l2 : Nat, (l1 : Int) - (G.roots.length : Int) = (l2 : Int) := ⟨l1 - G.roots.length, by omega⟩
      rw [hl2] at SR
      have n2 : ¬ (l2 : Int) < 0 := by omega
      have SM := szRefS_any HM2.out l2 (by omega)
      clear HM2
      by_cases d3 : G.mourned.length ≤ l2
      · rw [if_pos d3] at SM
        obtain ⟨l3, hl3⟩ : ∃ l3 : Nat, (l2 : Int) - (G.mourned.length : Int) = (l3 : Int) := ⟨l2 - G.mourned.length, by omega⟩
        rw [hl3] at SM
        have n3 : ¬ (l3 : Int) < 0 := by omega
        have ER : Hid (RV = (l3 : Int)) := by
          show RV = _
          rw [← HRV.out, if_pos (by unfold gSize; omega)]
          unfold gSize
          omega
        clear HRV
        go_wp2_with (first
          | (go_at_call 15; refine SR.mono ?_; rintro e w3 ⟨rfl, hw3⟩; rw [hw3]; clear hw3 w3 SR)
          | (go_at_call 15; refine SM.mono ?_; rintro e w3 ⟨rfl, hw3⟩; rw [hw3]; clear hw3 w3 SM))
        go_ret
        exact ⟨by rw [ER.out]; rfl, HB2⟩
      · rw [if_neg d3] at SM
        have ER : Hid (RV = -1) := by
          show RV = _
          rw [← HRV.out, if_neg (by unfold gSize; omega)]
        clear HRV
        go_wp2_with (first
          | (go_at_call 15; refine SR.mono ?_; rintro e w3 ⟨rfl, hw3⟩; rw [hw3]; clear hw3 w3 SR)
          | (go_at_call 15; refine SM.mono ?_; rintro e w3 ⟨rfl, hw3⟩; rw [hw3]; clear hw3 w3 SM))
        go_ret
        exact ⟨by rw [ER.out]; rfl, HB2⟩
    · rw [if_neg d2] at SR
      have ER : Hid (RV = -1) := by
        show RV = _
        rw [← HRV.out, if_neg (by unfold gSize; omega)]
      clear HRV HM2
      go_wp2_with (go_at_call 15; refine SR.mono ?_; rintro e w3 ⟨rfl, hw3⟩; rw [hw3]; clear hw3 w3 SR)
      go_ret
      exact ⟨by rw [ER.out]; rfl, HB2⟩
  · have e1 : szO ms left = -1 := by unfold szO; rw [if_neg d1]
    rw [e1]
    have ER : Hid (RV = -1) := by
      show RV = _
      rw [← HRV.out, if_neg (by unfold gSize; omega)]
    have HB2 : Hid _ := B2
    clear HRV U2 hR2 hM2 B2
    go_wp2
    go_ret
    exact ⟨by rw [ER.out]; rfl, HB2⟩

set_option maxHeartbeats 1000000 in
theorem eqGraph_same {w : World} {o r m o' r' m' : Value} {ms ns : List MO} {G : Gr} (h : GraphAt w o r m ms G) (h' : GraphAt w o' r' m' ns G) (hs : gSize ms G ≤ 1048576) :
    Calls Try.prog 9 #[gv o r m G.next G.seed, gv o' r' m' G.next G.seed] w fun e w' => e = .returned (.bool true) ∧ Below w.heap.size w w' := by
  have hsl := gSize_slots hs
  have hsz : G.roots.length ≤ 1048576 ∧ G.mourned.length ≤ 1048576 := by unfold gSize at hs; omega
  obtain ⟨ea, hO, hR, hM⟩ := h
  obtain ⟨ea', hO', hR', hM'⟩ := h'
  have B : Below w.heap.size w ((w.alloc (gb o r m G.next G.seed)).alloc (gb o' r' m' G.next G.seed)) := ((Below.refl _ w).alloc (Nat.le_refl _) _).alloc (by simp) _
  have EO := eqObjS_same (ea.trans ea'.symm) (objsAt_below hO B) (objsAt_below hO' B) hsl
  have T1 : Five ((w.alloc (gb o r m G.next G.seed)).alloc (gb o' r' m' G.next G.seed)) w.heap.size 30 o r m (.int .i64 G.next) (.int .i64 G.seed) := five_below (five_new w _ _ _ _ _ _) ((Below.refl _ _).alloc (Nat.le_refl _) _)
  have T2 : Five ((w.alloc (gb o r m G.next G.seed)).alloc (gb o' r' m' G.next G.seed)) (w.heap.size + 1) 30 o' r' m' (.int .i64 G.next) (.int .i64 G.seed) := by
    have := five_new (w.alloc (gb o r m G.next G.seed)) 30 o' r' m' (.int .i64 G.next) (.int .i64 G.seed)
    simpa using this
  have hR1 := refsAt_below hR B
  have hM1 := refsAt_below hM B
  have hR1' := refsAt_below hR' B
  have hM1' := refsAt_below hM' B
  obtain ⟨a1, n1, c1, e1⟩ : ∃ a n c, o = .slice a n c := by obtain ⟨⟨a, c, e, _⟩, _⟩ := hO; exact ⟨a, _, c, e⟩
  obtain ⟨a2, n2, c2, e2⟩ := refs_slice hR
  obtain ⟨a3, n3, c3, e3⟩ := refs_slice hM
  obtain ⟨b1, p1, d1, f1⟩ : ∃ a n c, o' = .slice a n c := by obtain ⟨⟨a, c, e, _⟩, _⟩ := hO'; exact ⟨a, _, c, e⟩
  obtain ⟨b2, p2, d2, f2⟩ := refs_slice hR'
  obtain ⟨b3, p3, d3, f3⟩ := refs_slice hM'
  subst e1 e2 e3 f1 f2 f3
  have i1 : (G.next != G.next) = false := by simp
  have i2 : (G.seed != G.seed) = false := by simp
  have HT1 : Hid _ := T1
  have HT2 : Hid _ := T2
  have HB : Hid _ := B
  have HR1 : Hid _ := hR1
  have HM1 : Hid _ := hM1
  have HR1' : Hid _ := hR1'
  have HM1' : Hid _ := hM1'
  clear B hO hR hM hR1 hM1 T1 T2 hO' hR' hM' hR1' hM1' ea ea'
  generalize hgn : G.next = gn at *
  generalize hgs : G.seed = gs at *
  go_enter Try.func9, Try.ntmps9
  go_wp2_with fail
  generalize ((w.alloc (gb (.slice a1 n1 c1) (.slice a2 n2 c2) (.slice a3 n3 c3) gn gs)).alloc (gb (.slice b1 p1 d1) (.slice b2 p2 d2) (.slice b3 p3 d3) gn gs)) = X at *
  refine EO.mono ?_
  rintro e w2 ⟨rfl, q2⟩
  have EQ2 := eqRefS_same (refsAt_below HR1.out q2) (refsAt_below HR1'.out q2) hsz.1
  have U1 := five_below HT1.out q2
  have U2 := five_below HT2.out q2
  have M2 := refsAt_below HM1.out q2
  have M2' := refsAt_below HM1'.out q2
  have B2 := HB.out.trans (q2.mono HB.out.size)
  clear EO q2 HT1 HT2 HB HR1 HM1 HR1' HM1'
  obtain ⟨_, k1, k2, k3, k4, _⟩ := five_cells U1
  obtain ⟨_, j1, j2, j3, j4, _⟩ := five_cells U2
  have HU1 : Hid _ := U1
  have HU2 : Hid _ := U2
  have HM2 : Hid _ := M2
  have HM2' : Hid _ := M2'
  have HB2 : Hid _ := B2
  clear U1 U2 M2 M2' B2
  go_wp2_with fail
  refine EQ2.mono ?_
  rintro e w3 ⟨rfl, q3⟩
  have EQ3 := eqRefS_same (refsAt_below HM2.out q3) (refsAt_below HM2'.out q3) hsz.2
  have V1 := five_below HU1.out q3
  have V2 := five_below HU2.out q3
  have B3 := HB2.out.trans (q3.mono HB2.out.size)
  clear EQ2 q3 HU1 HU2 HB2 HM2 HM2' k1 k2 k3 k4 j1 j2 j3 j4
  obtain ⟨_, _, k2, k3, k4, _⟩ := five_cells V1
  obtain ⟨_, _, j2, j3, j4, _⟩ := five_cells V2
  have HV1 : Hid _ := V1
  have HV2 : Hid _ := V2
  have HB3 : Hid _ := B3
  clear V1 V2 B3
  go_wp2_with fail
  refine EQ3.mono ?_
  rintro e w4 ⟨rfl, q4⟩
  have B4 := HB3.out.trans (q4.mono HB3.out.size)
  have Z1 := five_below HV1.out q4
  have Z2 := five_below HV2.out q4
  clear EQ3 q4 HV1 HV2 HB3 k2 k3 k4 j2 j3 j4
  obtain ⟨_, _, _, k3, k4, _⟩ := five_cells Z1
  obtain ⟨_, _, _, j3, j4, _⟩ := five_cells Z2
  have HB4 : Hid _ := B4
  clear Z1 Z2 B4
  go_wp2
  go_ret
  exact ⟨rfl, HB4⟩
end Go.Proofs.Ythldaifnlnbpgaa.gr
