/-
  Chapter 7 as the program has it: the change that Collected makes. Chapter 7 as the program has it: Collected. Chapter 7: what the specification's collecting needs of lists: a slot at a time, for weak ones and others. Chapter 7 as the specification has it: l7Collected. Chapter 7: what is collected is no greater than what it was collected of.
-/
import Derived.Test.YtdogibjgogcdkalM16
import Derived.Test.YtdogibjgogcdkalM13
import Derived.Test.YtdogibjgogcdkalM8
import Derived.Test.YtdogibjgogcdkalM15
import Derived.Test.YtdogibjgogcdkalM9
namespace Go.Proofs.Ytdogibjgogcdkal.gr
open Go.RowKit rows heads
set_option maxRecDepth 100000
set_option linter.unusedVariables false

theorem coll_fin {X : Gr} {f : Nat → Bool} {ms : List MO} (h : ms.map MO.abs = looseK X.objs f X.objs.length) : (keptM ms f ms.length).map MO.abs = collO X.objs f X.objs.length := by
  have hl : ms.length = X.objs.length := by have := congrArg List.length h; simpa [looseK_len] using this
  rw [keptM_abs, h, hl, ← collO_of _ (Nat.le_refl _)]

set_option maxHeartbeats 4000000 in
theorem cCollected_any {W : World} {base P : Nat} {G R : Gr} (H : Held W base P G) (ok : gOk G = true) (hC : Collects G R) :
    Calls Try.prog 49 #[.pointer (some ⟨P, 0, none⟩)] W fun e w' => e = .returned (.bool true) ∧ Held w' base P R ∧ Below base W w' := by
  obtain ⟨X, f, hM, hf, rfl⟩ := hC
  have hbase := held_base H
  have MA := mourn_any H (right_of ok) hM
  have hR : Right X := by obtain ⟨L, hL⟩ := hM; exact rounds_right (right_of ok) hL
  have HR : Hid _ := hR
  have HF : Hid _ := hf
  clear H hM ok hR hf
  go_enter Try.func49, Try.ntmps49
  go_wp2_with fail
  refine MA.mono ?_
  rintro e w1 ⟨rfl, H1, b1⟩
  obtain ⟨o, r, m, ms, T, O, N, hb⟩ := H1
  have s1 := b1.size
  have hH1 : HO w1 base P o r m ms X [] := ⟨T, O, N, hb, fun k hk => by simp at hk⟩
  obtain ⟨a1, n1, c1, a2, n2, c2, a3, n3, c3, e1, e2, e3⟩ := graphAt_slices (ownG_at O)
  subst e1 e2 e3
  have RP := reachedPlaces_any (ownG_at O) HR.out.gOk
  have hlen := own_len O
  have h200 : ms.length ≤ 200 := by rw [hlen]; exact (gOk_len HR.out.gOk).1
  obtain ⟨z0, z1, z2, z3, z4, _⟩ := five_cells T
  have HH1 : Hid _ := hH1
  have HB1 : Hid _ := b1
  have HLEN : Hid _ := hlen
  clear MA b1 T O N hb hH1 hlen
  go_wp2_with fail
  refine RP.mono ?_
  rintro e w2 ⟨Bi, is, rfl, hK, hBi, hil, his, b2⟩
  have hf2 : ∀ p, is.getD p false = f p := fun p => by
    have h1 := his p
    have h2 := HF.out p
    cases e1 : is.getD p false <;> cases e2 : f p
    · rfl
    · exact absurd (h1.2 (h2.1 e2)) (by rw [e1]; simp)
    · exact absurd (h2.2 (h1.1 e1)) (by rw [e2]; simp)
    · rfl
  have H2 := ho_below (ho_more HH1.out hBi) b2
  have LO := loosen_any H2 HR.out hK hil hf2
  have HB2 : Hid (Below base W w2) := HB1.out.trans (b2.mono (Nat.le_trans hbase s1))
  have HF2 : Hid _ := hf2
  have HIL : Hid _ := hil
  have HK : Hid _ := hK
  clear RP b2 H2 his hf2 hil hK HB1 HH1 z0 z1 z2 z3 z4
  go_wp2_with fail
  refine LO.mono ?_
  rintro e w3 ⟨rfl, ⟨ms3, H3⟩, K3, b3⟩
  have hl3 : ms3.length = ms.length := by
    have := own_len H3.2.1
    rw [this, HLEN.out]
    exact looseK_len _ _ _
  have KE := keep_any (f := f) H3 (by omega) K3 (by rw [hl3]; exact HIL.out) HF2.out
  rw [hl3] at KE
  have eC := coll_fin H3.2.1.1
  rw [hl3] at eC
  rw [eC] at KE
  have HB3 : Hid (Below base W w3) := HB2.out.trans b3
  clear LO H3 K3 b3 HB2 hl3 eC
  go_wp2_with fail
  refine KE.mono ?_
  rintro e w4 ⟨rfl, H4, b4⟩
  have HH4 : Hid _ := H4
  have HB4 : Hid (Below base W w4) := HB3.out.trans b4
  clear KE H4 b4 HB3
  go_wp2
  go_ret
  exact ⟨rfl, HH4.out, HB4.out⟩
end Go.Proofs.Ytdogibjgogcdkal.gr
namespace Go.Proofs.Ytdogibjgogcdkal.gr
open Go.RowKit rows heads
set_option maxRecDepth 100000

theorem egCollected : ∀ args w, (callFunc 49 args).run Try.prog w = .ok (.enter 49 args) w := fun args w => by go_simp
set_option maxHeartbeats 8000000 in
theorem implCollected {w : World} {o r m : Value} {ms : List MO} {G R : Gr} (h : GraphAt w o r m ms G) (hs : gSize ms G ≤ 1048576) (hR : gOk G = true → Collects G R) (h0 : gOk G = false → R = gr0) :
    Calls Try.prog 23 #[gv o r m G.next G.seed] w fun e w' => ∃ o' r' m' rs, e = .returned (gv o' r' m' R.next R.seed) ∧ OwnG w' w.heap.size o' r' m' rs R ∧ Below w.heap.size w w' := by
  obtain ⟨a1, n1, c1, a2, n2, c2, a3, n3, c3, e1, e2, e3⟩ := graphAt_slices h
  subst e1 e2 e3
  generalize hn0 : w.heap.size = n0 at *
  obtain ⟨X, hX⟩ : ∃ X, X = ((w.alloc (gb (.slice a1 n1 c1) (.slice a2 n2 c2) (.slice a3 n3 c3) G.next G.seed)).alloc (gb (.slice none 0 0) (.slice none 0 0) (.slice none 0 0) 0 0)) := ⟨_, rfl⟩
  have sX : X.heap.size = n0 + 2 := by rw [hX]; simp; omega
  have B0 : Below n0 w X := by rw [hX]; exact (((Below.refl _ w).alloc (by first | omega | (simp; omega)) _).alloc (by first | omega | (simp; omega)) _)
  have TP : Five X n0 32 (.slice a1 n1 c1) (.slice a2 n2 c2) (.slice a3 n3 c3) (.int .i64 G.next) (.int .i64 G.seed) := by
    rw [hX, ← hn0]
    exact heap_push (heap_alloc_new _ _)
  have TR : Five X (n0 + 1) 32 (.slice none 0 0) (.slice none 0 0) (.slice none 0 0) (.int .i64 0) (.int .i64 0) := by
    rw [hX, show n0 + 1 = (w.alloc (gb (.slice a1 n1 c1) (.slice a2 n2 c2) (.slice a3 n3 c3) G.next G.seed)).heap.size by simp; omega]
    exact heap_alloc_new _ _
  have ED := edited_any (graphAt_below h (by rw [hn0]; exact B0)) hs 49 #[] egCollected (R := R) (b := true) (fun ok base P W _ hW hH => cCollected_any hH ok (hR ok))
  have eR : (if gOk G = true then R else gr0) = R := by
    cases e : gOk G
    · simp [h0 e]
    · simp
  rw [eR] at ED
  generalize (gOk G && true) = RB at ED
  have HTR : Hid _ := TR
  have HB0 : Hid _ := B0
  have HX : Hid _ := hX
  have l1 : n0 + 2 ≤ X.heap.size := by omega
  clear eR TR TP B0 h hs hR h0
  go_enter Try.func23, Try.ntmps23
  go_wp2_with fail
  rw [hX] at ED
  generalize ((w.alloc (gb (.slice a1 n1 c1) (.slice a2 n2 c2) (.slice a3 n3 c3) G.next G.seed)).alloc (gb (.slice none 0 0) (.slice none 0 0) (.slice none 0 0) 0 0)) = X2 at *
  subst hX
  refine ED.mono ?_
  rintro e w1 ⟨o', r', m', rs, rfl, O1, b1⟩
  obtain ⟨a1', n1', c1', a2', n2', c2', a3', n3', c3', e1, e2, e3⟩ := graphAt_slices (ownG_at O1)
  subst e1 e2 e3
  have s1 := b1.size
  have TR1 := five_below HTR.out b1
  have B1 := HB0.out.trans (b1.mono (by omega))
  have N1 : Below w1.heap.size w1 (w1.alloc (gb (.slice a1' n1' c1') (.slice a2' n2' c2') (.slice a3' n3' c3') R.next R.seed)) := (Below.refl _ _).alloc (Nat.le_refl _) _
  have B2 := B1.trans (N1.mono (by omega))
  have TR2 := five_below TR1 N1
  have O2 := ownG_below O1 N1
  have TM := five_new w1 32 (.slice a1' n1' c1') (.slice a2' n2' c2') (.slice a3' n3' c3') (.int .i64 R.next) (.int .i64 R.seed)
  obtain ⟨v0, v1, v2, v3, v4, vf⟩ := five_cells TR2
  have g0 := vf 0
  have g1 := vf 1
  have g2 := vf 2
  have g3 := vf 3
  have g4 := vf 4
  obtain ⟨u0, u1, u2, u3, u4, _⟩ := five_cells TM
  have HOW : Hid _ := ownG_base (ownG_ch O2 (five_other (X := w1.alloc (gb (.slice a1' n1' c1') (.slice a2' n2' c2') (.slice a3' n3' c3') R.next R.seed)) (b := n0 + 1) (.slice a1' n1' c1') (.slice a2' n2' c2') (.slice a3' n3' c3') (.int .i64 R.next) (.int .i64 R.seed)) (fun x hx e => by have := (ownG_lt O1 x hx).1; rw [List.mem_singleton] at e; omega)) (show n0 ≤ X.heap.size by omega)
  have HTX : Hid _ := five_sets TR2 (.slice a1' n1' c1') (.slice a2' n2' c2') (.slice a3' n3' c3') (.int .i64 R.next) (.int .i64 R.seed)
  have HBX : Hid _ := five_belows B2 (show n0 ≤ n0 + 1 by omega) (.slice a1' n1' c1') (.slice a2' n2' c2') (.slice a3' n3' c3') (.int .i64 R.next) (.int .i64 R.seed)
  clear vf O1 O2 B1 B2 TR1 TR2 TM N1 HTR HB0 b1 ED sX l1
  go_wp2
  exact bodyPost_ret (res_gr rfl rfl HTX.out) rfl ⟨_, _, _, rs, rfl, HOW.out, HBX.out⟩
end Go.Proofs.Ytdogibjgogcdkal.gr
namespace Go.Proofs.Ytdogibjgogcdkal.gr
open Go.RowKit rows heads

/-- The objects, k of them loosened, and the first i slots of the next one, if it is weak. -/
def looseJ (os : List Ob) (f : Nat → Bool) (k i : Nat) : List Ob := if (os.getD k obD).fmt = 1 then looseI os f k i else looseK os f k
theorem looseJ_zero {os : List Ob} {f : Nat → Bool} {k : Nat} (hk : k < os.length) : looseJ os f k 0 = looseK os f k := by
  unfold looseJ
  split
  · exact looseI_zero hk
  · rfl
theorem looseJ_all {os : List Ob} {f : Nat → Bool} {k : Nat} (hk : k < os.length) (h1 : f k = true) : looseJ os f k (os.getD k obD).slots.length = looseK os f (k + 1) := by
  unfold looseJ
  split
  · rename_i h2; exact looseI_all hk h1 h2
  · rename_i h2; exact (looseK_skip hk (.inr h2)).symm
theorem looseJ_next {os : List Ob} {f : Nat → Bool} {k i : Nat} (hk : k < os.length) (hi : i < (os.getD k obD).slots.length) :
    looseJ os f k (i + 1) = if ((os.getD k obD).fmt == 1 && looseB os f ((os.getD k obD).slots.getD i refD)) = true then setSlot (looseJ os f k i) k i refD else looseJ os f k i := by
  unfold looseJ
  by_cases h : (os.getD k obD).fmt = 1
  · have h' : ((os.getD k obD).fmt == 1) = true := by simpa using h
    rw [if_pos h, if_pos h, h', Bool.true_and]
    exact looseI_next hk hi
  · have h' : ((os.getD k obD).fmt == 1) = false := by simpa using h
    rw [if_neg h, if_neg h, h', Bool.false_and, if_neg (by simp)]
theorem looseJ_slots {os : List Ob} {f : Nat → Bool} {k i : Nat} (hk : k < os.length) : ((looseJ os f k i).getD k obD).slots.length = (os.getD k obD).slots.length ∧ ((looseJ os f k i).getD k obD).slots.getD i refD = (os.getD k obD).slots.getD i refD := by
  unfold looseJ
  split
  · rw [looseI_getD hk hk, if_pos rfl]
    refine ⟨?_, take_map_get⟩
    simp only [List.length_append, List.length_map, List.length_take, List.length_drop]
    omega
  · rw [looseK_fmt hk (Nat.lt_irrefl _)]
    exact ⟨rfl, rfl⟩
theorem keptM_set (ms : List MO) (f : Nat → Bool) (k : Nat) (x : MO) : keptM (ms.set k x) f k = keptM ms f k := by
  unfold keptM
  apply List.map_congr_left
  intro p hp
  have hp := List.mem_range.1 (List.mem_filter.1 hp).1
  rw [List.getD_eq_getElem?_getD, List.getElem?_set_ne (by omega), List.getD_eq_getElem?_getD]
/-- An id is among those of the places that are kept just where its place is. -/
theorem pick_mem {G : Gr} (hr : Right G) {f : Nat → Bool} {p : Nat} (hp : p < G.objs.length) : decide ((G.objs.getD p obD).id ∈ pick G.objs f G.objs.length) = f p := by
  have h : (G.objs.getD p obD).id ∈ pick G.objs f G.objs.length ↔ f p = true := by
    unfold pick
    constructor
    · intro h
      obtain ⟨q, hq, e⟩ := List.mem_map.1 h
      obtain ⟨h1, h2⟩ := List.mem_filter.1 hq
      have := rise_inj (gOk_rise hr.gOk) (List.mem_range.1 h1) hp e
      rw [← this]
      exact h2
    · intro h
      exact List.mem_map.2 ⟨p, List.mem_filter.2 ⟨List.mem_range.2 hp, h⟩, rfl⟩
  cases e : f p
  · exact decide_eq_false (fun h' => by rw [h.1 h'] at e; cases e)
  · exact decide_eq_true (h.2 e)
theorem least_of {p : Nat → Prop} : ∀ n, p n → ∃ m, p m ∧ ∀ i, i < m → ¬ p i := by
  classical
  intro n
  induction n using Nat.strongRecOn with
  | ind n ih =>
    intro h
    by_cases h' : ∃ i, i < n ∧ p i
    · obtain ⟨i, h1, h2⟩ := h'
      exact ih i h1 h2
    · exact ⟨n, h, fun i hi hp => h' ⟨i, hi, hp⟩⟩
theorem atI_id {os : List Ob} {id : Int} (h : 0 ≤ atI os id) : (os.getD (atI os id).toNat obD).id = id := by
  by_cases hx : ∃ m, m < os.length ∧ (os.getD m obD).id = id
  · obtain ⟨n, hn⟩ := hx
    obtain ⟨m, ⟨h1, h2⟩, h3⟩ := least_of (p := fun m => m < os.length ∧ (os.getD m obD).id = id) n hn
    rw [atI_at h1 h2 (fun i hi e => h3 i hi ⟨by omega, e⟩), Int.toNat_natCast]
    exact h2
  · rw [atI_no (fun m hm e => hx ⟨m, hm, e⟩)] at h
    omega
theorem pick_loose {G : Gr} (hr : Right G) {f : Nat → Bool} {e : Rf} (he : refOk G.objs e = true) : (e.1 == 2 && !(decide (e.2 ∈ pick G.objs f G.objs.length))) = looseB G.objs f e := by
  unfold looseB
  by_cases h2 : e.1 = 2
  · obtain ⟨h3, h4⟩ := refOk_two he h2
    have hp : (atI G.objs e.2).toNat < G.objs.length := by omega
    have hid : (G.objs.getD (atI G.objs e.2).toNat obD).id = e.2 := atI_id h3
    have := pick_mem hr (f := f) hp
    rw [hid] at this
    rw [this]
  · have : (e.1 == 2) = false := by simpa using h2
    rw [this]; rfl
end Go.Proofs.Ytdogibjgogcdkal.gr
namespace Go.Proofs.Ytdogibjgogcdkal.gr
open Go.RowKit rows heads
set_option maxRecDepth 100000
set_option linter.unusedVariables false

theorem ho_list {w : World} {base P : Nat} {o r m : Value} {ms : List MO} {G : Gr} {S : List Nat} (h : HO w base P o r m ms G []) (hs : ∀ b ∈ S, w.heap.size ≤ b) : HO w base P o r m ms G S := by
  refine ⟨h.1, h.2.1, h.2.2.1, h.2.2.2.1, fun k hk => ?_⟩
  have := lt_of_block h.1
  have h1 := hs k hk
  exact ⟨by omega, fun e => by have := (ownG_lt h.2.1 k e).2; omega⟩
theorem ho_ch {w w' : World} {base P : Nat} {o r m : Value} {ms : List MO} {G : Gr} {S D : List Nat} (h : HO w base P o r m ms G S) (c : Ch D w w') (hp : P ∉ D) (hg : ∀ x ∈ gblk o r m ms, x ∉ D) : HO w' base P o r m ms G S := ⟨five_ch h.1 c hp, ownG_ch h.2.1 c hg, h.2.2.1, h.2.2.2.1, h.2.2.2.2⟩
theorem gblk_set (o r m : Value) (ms : List MO) (k : Nat) (s : List Rf) : gblk o r m (ms.set k { ms.getD k moD with slots := s }) = gblk o r m ms := by unfold gblk; rw [blks_same]

/-- What holds between two objects of the loop. -/
structure CS (w4 wz : World) (base P Q : Nat) (o r m v5 : Value) (n : Nat) (X : Gr) (f : Nat → Bool) (zs : List Int) (os : List Ob) (S : List Nat) (k : Nat) (ms : List MO) (u0 : Value) : Prop where
  len : ms.length = n
  ho : HO wz base P o r m ms { X with objs := os } (S ++ (Q :: blk v5))
  lt : ∀ x ∈ gblk o r m ms, x < Q
  pq : P < Q
  lv : ∀ x ∈ blk v5, x < Q
  five : Five wz Q 32 u0 r m (.int .i64 X.next) (.int .i64 X.seed)
  row : OwnRow wz (Q + 1) u0 (keptM ms f k)
  own : Own wz w4.heap.size v5 zs
  bel : Below base w4 wz
theorem CS.below {w4 wz w' : World} {base P Q n k : Nat} {o r m v5 u0 : Value} {X : Gr} {f : Nat → Bool} {zs : List Int} {os : List Ob} {S : List Nat} {ms : List MO} (h : CS w4 wz base P Q o r m v5 n X f zs os S k ms u0) (hb : Below wz.heap.size wz w') (hs : base ≤ wz.heap.size) : CS w4 w' base P Q o r m v5 n X f zs os S k ms u0 :=
  ⟨h.len, ho_below h.ho hb, h.lt, h.pq, h.lv, five_below h.five hb, row_below h.row hb, own_below h.own hb, h.bel.trans (hb.mono hs)⟩
theorem CS.more {w4 wz : World} {base P Q n k : Nat} {o r m v5 u0 : Value} {X : Gr} {f : Nat → Bool} {zs : List Int} {os : List Ob} {S : List Nat} {ms : List MO} (h : CS w4 wz base P Q o r m v5 n X f zs os S k ms u0) {b : Nat} (hb : wz.heap.size ≤ b) : CS w4 wz base P Q o r m v5 n X f zs os (b :: S) k ms u0 :=
  ⟨h.len, ho_more h.ho hb, h.lt, h.pq, h.lv, h.five, h.row, h.own, h.bel⟩
theorem CS.less {w4 wz : World} {base P Q n k : Nat} {o r m v5 u0 : Value} {X : Gr} {f : Nat → Bool} {zs : List Int} {os : List Ob} {S : List Nat} {ms : List MO} (h : CS w4 wz base P Q o r m v5 n X f zs os S k ms u0) : CS w4 wz base P Q o r m v5 n X f zs os [] k ms u0 :=
  ⟨h.len, ho_less h.ho (fun x hx => List.mem_append_right _ hx), h.lt, h.pq, h.lv, h.five, h.row, h.own, h.bel⟩
theorem CS.objs {w4 wz : World} {base P Q n k : Nat} {o r m v5 u0 : Value} {X : Gr} {f : Nat → Bool} {zs : List Int} {os os' : List Ob} {S : List Nat} {ms : List MO} (h : CS w4 wz base P Q o r m v5 n X f zs os S k ms u0) (e : os = os') : CS w4 wz base P Q o r m v5 n X f zs os' S k ms u0 := e ▸ h
/-- It is not kept: nothing more is told. -/
theorem CS.skip {w4 wz : World} {base P Q n k : Nat} {o r m v5 u0 : Value} {X : Gr} {f : Nat → Bool} {zs : List Int} {os : List Ob} {S : List Nat} {ms : List MO} (h : CS w4 wz base P Q o r m v5 n X f zs os S k ms u0) (hf : f k = false) : CS w4 wz base P Q o r m v5 n X f zs os S (k + 1) ms u0 :=
  ⟨h.len, h.ho, h.lt, h.pq, h.lv, h.five, by rw [keptM_next, hf, if_neg (by simp), List.append_nil]; exact h.row, h.own, h.bel⟩
/-- A slot of the next one is made nil. -/
theorem CS.slot {w4 wz : World} {base P Q n k : Nat} {o r m v5 u0 : Value} {X : Gr} {f : Nat → Bool} {zs : List Int} {os : List Ob} {S : List Nat} {ms : List MO} (h : CS w4 wz base P Q o r m v5 n X f zs os S k ms u0) (hk : k < n) {q sn sc : Nat} (hv : (ms.getD k moD).sv = .slice (some ⟨q, 0, none⟩) sn sc) (j : Nat) :
    CS w4 (put2 wz q j (0, 0)) base P Q o r m v5 n X f zs (setSlot os k j refD) S k (ms.set k { ms.getD k moD with slots := (ms.getD k moD).slots.set j (0, 0) }) u0 ∧ (∀ x ∈ S, (put2 wz q j (0, 0)).heap[x]? = wz.heap[x]?) := by
  obtain ⟨s1, s2, s3, s4⟩ := ho_setSlot h.ho (k := k) (by rw [h.len]; exact hk) hv j (0, 0)
  have hq : q ∈ gblk o r m ms := by
    simp only [gblk, blks, List.mem_append, List.mem_flatMap]
    exact .inl (.inl (.inr ⟨_, mem_getD (by rw [h.len]; exact hk), by rw [hv]; simp [blk_some]⟩))
  have hqQ := h.lt q hq
  have C := put2_ch wz q j (0, 0)
  refine ⟨⟨by rw [List.length_set]; exact h.len, s1, by rw [gblk_set]; exact h.lt, h.pq, h.lv, five_ch h.five C (fun e => by rw [List.mem_singleton] at e; omega), ?_, row_ch h.own C (fun x hx e => ?_), h.bel.trans s2⟩, fun x hx => s3 x (List.mem_append_left _ hx)⟩
  · rw [keptM_set]
    exact row_ch h.row C (fun x hx e => by
      rw [List.mem_singleton] at e
      have := (blk_lt h.row x hx).1
      omega)
  · rw [List.mem_singleton] at e
    subst e
    exact (h.ho.2.2.2.2 x (List.mem_append_right _ (List.mem_cons_of_mem _ hx))).2 hq
/-- It is told. -/
theorem CS.told {w4 wz w' : World} {base P Q n k : Nat} {o r m v5 u0 v' : Value} {X : Gr} {f : Nat → Bool} {zs : List Int} {os : List Ob} {S : List Nat} {ms : List MO} (h : CS w4 wz base P Q o r m v5 n X f zs os S k ms u0) (hf : f k = true) (hs : base ≤ Q) {M : MO} (hM : cellsO [ms.getD k moD] = cellsO [M])
    (h1 : w'.ownsRow (Q + 1) 51 5 v' ((keptM ms f k).length + 1) (cellsO (keptM ms f k) ++ cellsO [M])) (h2 : wz.grownBy w' u0.ownBlock) :
    w'.cell? ⟨Q, 0, none⟩ = some u0 ∧ w'.frozen? ⟨Q, 0, none⟩ = false ∧ (∃ a n c, v' = .slice a n c) ∧ CS w4 (w'.setCell ⟨Q, 0, none⟩ v') base P Q o r m v5 n X f zs os [] (k + 1) ms v' := by
  have C1 := ch_grown h2
  have hu : ∀ x ∈ blk u0, Q + 1 ≤ x := fun x hx => (blk_lt h.row x hx).1
  have F1 := five_ch h.five C1 (fun e => by have := hu Q e; omega)
  obtain ⟨c0, _, _, _, _, cf⟩ := five_cells F1
  have C2 := one_ch w' Q 0 v'
  have on : OwnRow w' (Q + 1) v' (keptM ms f (k + 1)) := by
    unfold OwnRow
    rw [keptM_next, hf, if_pos rfl, cellsO_append, hM, List.length_append]
    exact h1
  have sl : ∃ a n c, v' = .slice a n c := by
    obtain ⟨h0, ⟨h1, h2⟩ | ⟨g, cap, cur, h1, _⟩⟩ := on
    · exact ⟨_, _, _, h1⟩
    · exact ⟨_, _, _, h1⟩
  have HL := (ho_less h.ho (S' := Q :: blk v5) (fun x hx => List.mem_append_right _ hx))
  have H1 := ho_ch HL C1 (fun e => by have := hu P e; have := h.pq; omega) (fun x hx e => by have := hu x e; have := h.lt x hx; omega)
  have H2 := ho_ch H1 C2 (fun e => by rw [List.mem_singleton] at e; have := h.pq; omega) (fun x hx e => by rw [List.mem_singleton] at e; have := h.lt x hx; omega)
  refine ⟨c0, cf 0, sl, ⟨h.len, H2, h.lt, h.pq, h.lv, five_set0 F1 v', row_ch on C2 (fun x hx e => by rw [List.mem_singleton] at e; have := (blk_lt on x hx).1; omega), row_ch (row_ch h.own C1 (fun x hx e => by have := hu x e; have := h.lv x hx; omega)) C2 (fun x hx e => by rw [List.mem_singleton] at e; have := h.lv x hx; omega), ?_⟩⟩
  exact (h.bel.grown h2 (show base ≤ wz.heap.size by have := lt_of_block h.five; omega) (fun j e => by
    have := (World.ownsRow.lt h.row j e).1
    omega)).setCell (p := ⟨Q, 0, none⟩) hs v'

set_option maxHeartbeats 8000000 in
theorem l7Collected_any {w : World} {o r m : Value} {ms : List MO} {G R : Gr} (h : GraphAt w o r m ms G) (hs : gSize ms G ≤ 1048576) (ok : gOk G = true) (hC : Collects G R) :
    Calls Try.prog 48 #[gv o r m G.next G.seed] w fun e w' => ∃ o' r' m' rs, e = .returned (gv o' r' m' R.next R.seed) ∧ OwnG w' w.heap.size o' r' m' rs R ∧ Below w.heap.size w w' := by
  obtain ⟨X, f, hM, hf, rfl⟩ := hC
  have hRX : Right X := by obtain ⟨L, hL⟩ := hM; exact rounds_right (right_of ok) hL
  obtain ⟨a1, n1, c1, a2, n2, c2, a3, n3, c3, e1, e2, e3⟩ := graphAt_slices h
  subst e1 e2 e3
  generalize hn0 : w.heap.size = n0 at *
  have B0 : Below n0 w ((w.alloc (gb (.slice a1 n1 c1) (.slice a2 n2 c2) (.slice a3 n3 c3) G.next G.seed)).alloc (gb (.slice none 0 0) (.slice none 0 0) (.slice none 0 0) 0 0)) := (((Below.refl _ w).alloc (by first | omega | (simp; omega)) _).alloc (by first | omega | (simp; omega)) _)
  have TP : Five ((w.alloc (gb (.slice a1 n1 c1) (.slice a2 n2 c2) (.slice a3 n3 c3) G.next G.seed)).alloc (gb (.slice none 0 0) (.slice none 0 0) (.slice none 0 0) 0 0)) n0 32 (.slice a1 n1 c1) (.slice a2 n2 c2) (.slice a3 n3 c3) (.int .i64 G.next) (.int .i64 G.seed) := by
    rw [← hn0]
    exact heap_push (heap_alloc_new _ _)
  have TR : Five ((w.alloc (gb (.slice a1 n1 c1) (.slice a2 n2 c2) (.slice a3 n3 c3) G.next G.seed)).alloc (gb (.slice none 0 0) (.slice none 0 0) (.slice none 0 0) 0 0)) (n0 + 1) 32 (.slice none 0 0) (.slice none 0 0) (.slice none 0 0) (.int .i64 0) (.int .i64 0) := by
    rw [show n0 + 1 = (w.alloc (gb (.slice a1 n1 c1) (.slice a2 n2 c2) (.slice a3 n3 c3) G.next G.seed)).heap.size by simp; omega]
    exact heap_alloc_new _ _
  have hX : n0 + 2 ≤ ((w.alloc (gb (.slice a1 n1 c1) (.slice a2 n2 c2) (.slice a3 n3 c3) G.next G.seed)).alloc (gb (.slice none 0 0) (.slice none 0 0) (.slice none 0 0) 0 0)).heap.size := by simp; omega
  have CG := l6Copy_any (graphAt_below h (by rw [hn0]; exact B0)) hs
  obtain ⟨z0, z1, z2, z3, z4, _⟩ := five_cells TP
  have HM : Hid _ := hM
  have HF : Hid _ := hf
  have HR : Hid _ := hRX
  have HRO : Hid _ := right_of ok
  have HTR : Hid _ := TR
  have HB0 : Hid _ := B0
  clear h hs hM hf hRX TP TR B0 ok
  go_enter Try.func48, Try.ntmps48
  go_wp2_with fail
  generalize ((w.alloc (gb (.slice a1 n1 c1) (.slice a2 n2 c2) (.slice a3 n3 c3) G.next G.seed)).alloc (gb (.slice none 0 0) (.slice none 0 0) (.slice none 0 0) 0 0)) = V at *
  refine CG.mono ?_
  rintro e w2 ⟨o', r', m', ns, rfl, OG, b2⟩
  obtain ⟨a1', n1', c1', a2', n2', c2', a3', n3', c3', e1, e2, e3⟩ := graphAt_slices (ownG_at OG)
  subst e1 e2 e3
  have s2 := b2.size
  have BA : Below w2.heap.size w2 (w2.alloc (gb (.slice a1' n1' c1') (.slice a2' n2' c2') (.slice a3' n3' c3') G.next G.seed)) := (Below.refl _ w2).alloc (Nat.le_refl _) _
  have HH : Held (w2.alloc (gb (.slice a1' n1' c1') (.slice a2' n2' c2') (.slice a3' n3' c3') G.next G.seed)) V.heap.size w2.heap.size G :=
    ⟨_, _, _, ns, five_new w2 _ _ _ _ _ _, ownG_below OG BA, fun e => by have := (ownG_lt OG _ e).2; omega, s2⟩
  have CL := l7Mourn_any HH HRO.out HM.out
  have HTR2 : Hid _ := five_below (five_below HTR.out b2) BA
  have HB2 : Hid _ := (HB0.out.trans (b2.mono (by omega))).trans (BA.mono (by omega))
  have s3 : V.heap.size ≤ (w2.alloc (gb (.slice a1' n1' c1') (.slice a2' n2' c2') (.slice a3' n3' c3') G.next G.seed)).heap.size := by simp; omega
  clear CG OG b2 BA HH HTR HB0 z0 z1 z2 z3 z4
  go_wp2_with fail
  generalize hW3 : w2.alloc (gb (.slice a1' n1' c1') (.slice a2' n2' c2') (.slice a3' n3' c3') G.next G.seed) = W3 at *
  generalize hP : w2.heap.size = P at *
  clear hW3 hP
  refine CL.mono ?_
  rintro e w4 ⟨rfl, ⟨o, r, m, ms, T4, O4, N4, hb4⟩, b4⟩
  have s4 := b4.size
  obtain ⟨a1, n1, c1, a2, n2, c2, a3, n3, c3, e1, e2, e3⟩ := graphAt_slices (ownG_at O4)
  subst e1 e2 e3
  have en : n1 = ms.length := by
    obtain ⟨a', c', e', _⟩ := (ownO_at O4.2.1).1
    injection e'
  subst en
  have hlen := own_len O4
  have h200 : ms.length ≤ 200 := by rw [hlen]; exact (gOk_len HR.out.gOk).1
  have hzl : (pick X.objs f X.objs.length).length ≤ 1048576 := by
    unfold pick
    rw [List.length_map]
    exact Nat.le_trans (List.length_filter_le _ _) (by simp; omega)
  have RR := l7Reached_any (ownG_at O4) HR.out.gOk (zs := pick X.objs f X.objs.length) ⟨f, HF.out, rfl⟩
  obtain ⟨zs, hzs⟩ : ∃ zs, pick X.objs f X.objs.length = zs := ⟨_, rfl⟩
  rw [hzs] at RR hzl
  obtain ⟨z0, z1, z2, z3, z4, _⟩ := five_cells T4
  have HH4 : Hid (HO w4 V.heap.size P (.slice a1 ms.length c1) (.slice a2 n2 c2) (.slice a3 n3 c3) ms X []) := ⟨T4, O4, N4, hb4, fun k hk => by simp at hk⟩
  have HTR4 : Hid (Five w4 (n0 + 1) 32 (.slice none 0 0) (.slice none 0 0) (.slice none 0 0) (.int .i64 0) (.int .i64 0)) := (b4.block (n0 + 1) (by omega)).trans HTR2.out
  have HB4 : Hid (Below n0 w w4) := HB2.out.trans (b4.mono (by omega))
  have HZ : Hid _ := hzs
  have HLEN : Hid _ := hlen
  have hP4 := lt_of_block T4
  clear CL T4 O4 N4 b4 HTR2 HB2 hzs hlen
  go_wp2_with fail
  refine RR.mono ?_
  rintro e w5 ⟨v5, rfl, O5, b5⟩
  obtain ⟨va, vc, rfl, _, _, _, _⟩ := own_ints O5
  have s5 := b5.size
  have hP5 : P < w5.heap.size := by omega
  have HB5 : Hid _ := b5
  have HO5 : Hid _ := O5
  have y0 := (b5.cell (p := ⟨P, 0, none⟩) hP4).trans z0
  have y1 := (b5.cell (p := ⟨P, 1, none⟩) hP4).trans z1
  have y2 := (b5.cell (p := ⟨P, 2, none⟩) hP4).trans z2
  have y3 := (b5.cell (p := ⟨P, 3, none⟩) hP4).trans z3
  have y4 := (b5.cell (p := ⟨P, 4, none⟩) hP4).trans z4
  clear RR b5 O5 z0 z1 z2 z3 z4
  have hb5 : Below w5.heap.size w5 ((w5.alloc (gb (.slice (some ⟨w5.heap.size + 1, 0, none⟩) 0 0) (.slice a2 n2 c2) (.slice a3 n3 c3) X.next X.seed)).alloc (.cells #[] 51)) := ((Below.refl _ _).alloc (Nat.le_refl _) _).alloc (by simp) _
  have HCS0 : Hid (CS w4 ((w5.alloc (gb (.slice (some ⟨w5.heap.size + 1, 0, none⟩) 0 0) (.slice a2 n2 c2) (.slice a3 n3 c3) X.next X.seed)).alloc (.cells #[] 51)) V.heap.size P w5.heap.size (.slice a1 ms.length c1) (.slice a2 n2 c2) (.slice a3 n3 c3) (.slice va zs.length vc) ms.length X f zs (looseK X.objs f 0) [] 0 ms (.slice (some ⟨w5.heap.size + 1, 0, none⟩) 0 0)) := by
    refine ⟨rfl, ?_, fun x hx => ?_, hP5, fun x hx => (blk_lt HO5.out x hx).2, five_below (five_new w5 _ _ _ _ _ _) ((Below.refl _ _).alloc (Nat.le_refl _) _), ?_, own_below HO5.out hb5, ?_⟩
    · refine ho_objs (ho_below (ho_list HH4.out (fun b hb => ?_)) (HB5.out.trans (hb5.mono s5))) (looseK_zero X.objs f).symm
      rcases List.mem_cons.1 hb with rfl | hb
      · exact s5
      · exact (blk_lt HO5.out b hb).1
    · have := (ownG_lt HH4.out.2.1 x hx).2
      omega
    · refine ⟨rfl, .inr ⟨w5.heap.size + 1, 0, #[], rfl, Nat.le_refl _, ?_, Nat.le_refl _, by decide, rfl, rfl⟩⟩
      have := heap_alloc_new (w5.alloc (gb (.slice (some ⟨w5.heap.size + 1, 0, none⟩) 0 0) (.slice a2 n2 c2) (.slice a3 n3 c3) X.next X.seed)) (.cells #[] 51)
      simpa using this
    · exact (HB5.out.trans (hb5.mono s5)).mono (by omega)
  go_wp2_with fail
  generalize ((w5.alloc (gb (.slice (some ⟨w5.heap.size + 1, 0, none⟩) 0 0) (.slice a2 n2 c2) (.slice a3 n3 c3) X.next X.seed)).alloc (.cells #[] 51)) = W8 at *
  generalize hQ : w5.heap.size = Q at *
  have hQb : V.heap.size ≤ Q := by omega
  have hbw4 : V.heap.size ≤ w4.heap.size := by omega
  clear hQ y0 y1 y2 y3 y4 hb5 HB5 HO5
  go_loopw [6] (fun i wz => ∃ (k : Nat) (ms' : List MO) (u0 : Value), k ≤ ms.length ∧ i = .int .i64 (k : Int) ∧ CS w4 wz V.heap.size P Q (.slice a1 ms.length c1) (.slice a2 n2 c2) (.slice a3 n3 c3) (.slice va zs.length vc) ms.length X f zs (looseK X.objs f k) [] k ms' u0) (fun i _ => ms.length - (intOf i).toNat)
  case atStart => exact ⟨0, ms, _, Nat.zero_le _, rfl, HCS0.out⟩
  case round =>
    obtain ⟨k, ms', u0, hk, rfl, hS⟩ := hrel
    clear HCS0
    have hw : V.heap.size ≤ wr.heap.size := Nat.le_trans hbw4 hS.bel.size
    obtain ⟨p0, _⟩ := five_cells hS.ho.1
    by_cases hlt : k < ms.length
    · have hlt' : (k : Int) < (ms.length : Int) := by omega
      have hkx : k < X.objs.length := by have := HLEN.out; omega
      have hml := hS.len
      obtain ⟨a', c', e', _, _, _, hco⟩ := (ownO_at hS.ho.2.1.2.1).1
      have e1 : a1 = a' := by injection e'
      have e3 : c1 = c' := by injection e'
      subst e1 e3
      obtain ⟨b, off, rfl, hb, hcc⟩ := hco (by omega)
      obtain ⟨x0, x1, x2, x3, x4⟩ := hcc k (by omega)
      have eM : (ms'.getD k moD).abs = X.objs.getD k obD := by
        rw [← abs_getD, hS.ho.2.1.1]
        exact looseK_fmt hkx (Nat.lt_irrefl _)
      obtain ⟨sa, sn, sc, hsv⟩ := objs_slices (ownO_at hS.ho.2.1.2.1) _ (mem_getD (ms := ms') (i := k) (by omega))
      have hid : (ms'.getD k moD).id = (X.objs.getD k obD).id := congrArg Ob.id eM
      have hfm : (ms'.getD k moD).fmt = (X.objs.getD k obD).fmt := congrArg Ob.fmt eM
      have hsl : (ms'.getD k moD).slots = (X.objs.getD k obD).slots := congrArg Ob.slots eM
      have hOR := hS.ho.2.1.2.1.2.1 _ (mem_getD (ms := ms') (i := k) (by omega))
      have eL : sn = (X.objs.getD k obD).slots.length := by
        rw [← hsl]
        rw [hsv] at hOR
        obtain ⟨_, ⟨h1, h2⟩ | ⟨g', cap', cur, h1, _⟩⟩ := hOR
        · injection h1 with _ h3 _; omega
        · injection h1
      have hL20 : sn ≤ 1048576 := by rw [eL]; exact slots_small HR.out hkx
      have hpm := pick_mem HR.out (f := f) hkx
      rw [HZ.out] at hpm
      generalize hMid : (ms'.getD k moD).id = mi at *
      generalize hMcl : (ms'.getD k moD).cls = mc at *
      generalize hMfm : (ms'.getD k moD).fmt = mf at *
      generalize hMha : (ms'.getD k moD).hash = mh at *
      rw [hsv] at x4
      rw [← hid] at hpm
      have b1 : Below wr.heap.size wr (wr.alloc (ob ⟨mi, mc, mf, mh, .slice sa sn sc, []⟩)) := (Below.refl _ _).alloc (Nat.le_refl _) _
      obtain ⟨y0, y1, y2, y3, y4⟩ := ob_cells (heap_alloc_new wr (ob ⟨mi, mc, mf, mh, .slice sa sn sc, []⟩))
      simp only at y0 y1 y2 y3 y4
      have hS1 := (hS.more (Nat.le_refl wr.heap.size)).below b1 hw
      have LH := l1Has_any (w := wr.alloc (ob ⟨mi, mc, mf, mh, .slice sa sn sc, []⟩)) (own_ints hS1.own) hzl mi
      rw [hpm] at LH
      have HS1 : Hid _ := hS1
      have HT1 : Hid _ := heap_alloc_new wr (ob ⟨mi, mc, mf, mh, .slice sa sn sc, []⟩)
      have HMM : Hid ((ms'.getD k moD).id = mi ∧ (ms'.getD k moD).cls = mc ∧ (ms'.getD k moD).fmt = mf ∧ (ms'.getD k moD).hash = mh ∧ (ms'.getD k moD).sv = .slice sa sn sc) := ⟨hMid, hMcl, hMfm, hMha, hsv⟩
      have HEL : Hid _ := eL
      have HFM : Hid (mf = (X.objs.getD k obD).fmt) := hfm
      clear hS hS1 hco hcc eM hsl hOR eL hpm hMid hMcl hMfm hMha hsv hid hfm e' b1
      cases hfk : f k
      · rw [hfk] at LH
        have ST : Hid (CS w4 (wr.alloc (ob ⟨mi, mc, mf, mh, .slice sa sn sc, []⟩)) V.heap.size P Q (.slice (some ⟨b, off, none⟩) ms.length c1) (.slice a2 n2 c2) (.slice a3 n3 c3) (.slice va zs.length vc) ms.length X f zs (looseK X.objs f (k + 1)) [] (k + 1) ms' u0) := (HS1.out.less.skip hfk).objs (looseK_skip hkx (.inl hfk)).symm
        clear HS1
        go_wp2_with (go_at_call 62; refine LH.mono ?_; clear LH; rintro e w9 ⟨rfl, hw9⟩; rw [hw9]; clear hw9 w9)
        exact ⟨⟨k + 1, ms', u0, by omega, by go_num, ST.out⟩, by simp [intOf]; omega⟩
      · rw [hfk] at LH
        have HI0 : Hid (CS w4 (wr.alloc (ob ⟨mi, mc, mf, mh, .slice sa sn sc, []⟩)) V.heap.size P Q (.slice (some ⟨b, off, none⟩) ms.length c1) (.slice a2 n2 c2) (.slice a3 n3 c3) (.slice va zs.length vc) ms.length X f zs (looseJ X.objs f k 0) [wr.heap.size] k ms' u0) := HS1.out.objs (looseJ_zero hkx).symm
        clear HS1
        go_wp2_with (go_at_call 62; refine LH.mono ?_; clear LH; rintro e w9 ⟨rfl, hw9⟩; rw [hw9]; clear hw9 w9)
        generalize wr.alloc (ob ⟨mi, mc, mf, mh, .slice sa sn sc, []⟩) = X1 at *
        generalize wr.heap.size = bx at *
        clear x0 x1 x2 x3 x4 y0 y1 y2 y3 y4 p0
        go_loopw [8] (fun i wy => ∃ (j : Nat) (ms2 : List MO), j ≤ sn ∧ i = .int .i64 (j : Int) ∧ CS w4 wy V.heap.size P Q (.slice (some ⟨b, off, none⟩) ms.length c1) (.slice a2 n2 c2) (.slice a3 n3 c3) (.slice va zs.length vc) ms.length X f zs (looseJ X.objs f k j) [bx] k ms2 u0 ∧ ((ms2.getD k moD).id = mi ∧ (ms2.getD k moD).cls = mc ∧ (ms2.getD k moD).fmt = mf ∧ (ms2.getD k moD).hash = mh ∧ (ms2.getD k moD).sv = .slice sa sn sc) ∧ wy.heap[bx]? = some (ob ⟨mi, mc, mf, mh, .slice sa sn sc, []⟩)) (fun i _ => sn - (intOf i).toNat)
        case atStart => exact ⟨0, ms', Nat.zero_le _, rfl, HI0.out, HMM.out, HT1.out⟩
        case round =>
          obtain ⟨j, ms2, hj, rfl, hS2, hmm2, ht2⟩ := hrel
          clear HI0 HMM HT1
          obtain ⟨y0, y1, y2, y3, y4⟩ := ob_cells ht2
          simp only at y0 y1 y2 y3 y4
          have hw2 : V.heap.size ≤ wr.heap.size := Nat.le_trans hbw4 hS2.bel.size
          by_cases hjl : j < sn
          · have hjl' : (j : Int) < (sn : Int) := by omega
            have es2 := own_abs hS2.ho.2.1 k
            have ej := looseJ_slots (f := f) (i := j) hkx
            have el2 : (ms2.getD k moD).slots.length = sn := by rw [es2, HEL.out]; exact ej.1
            have hOR := hS2.ho.2.1.2.1.2.1 _ (mem_getD (ms := ms2) (i := k) (by rw [hS2.len]; exact hlt))
            rw [hmm2.2.2.2.2] at hOR
            obtain ⟨q, c', e'⟩ := ownR_form hOR (by omega)
            have e1 : sa = some ⟨q, 0, none⟩ := by injection e'
            clear e'
            subst e1
            have cr := ownR_cell hOR (i := j) (by omega)
            have ee : (ms2.getD k moD).slots.getD j refD = (X.objs.getD k obD).slots.getD j refD := by rw [es2]; exact ej.2
            rw [ee] at cr
            have fr0 := row_frozen hOR (j * 2)
            have fr1 := row_frozen hOR (j * 2 + 1)
            have hok := HR.out.sl k hkx j (by have := HEL.out; omega)
            have hPL := pick_loose HR.out (f := f) hok
            rw [HZ.out] at hPL
            have HNX : Hid _ := looseJ_next (f := f) hkx (show j < (X.objs.getD k obD).slots.length by have := HEL.out; omega)
            rw [← HFM.out] at HNX
            generalize hee : (X.objs.getD k obD).slots.getD j refD = ee0 at *
            obtain ⟨e1, e2⟩ := ee0
            obtain ⟨cr0, cr1⟩ := cr
            simp only at cr0 cr1 hPL
            have LH2 := l1Has_any (w := wr) (own_ints hS2.own) hzl e2
            have HNO : Hid ((mf == 1 && looseB X.objs f (e1, e2)) = false → CS w4 wr V.heap.size P Q (.slice (some ⟨b, off, none⟩) ms.length c1) (.slice a2 n2 c2) (.slice a3 n3 c3) (.slice va zs.length vc) ms.length X f zs (looseJ X.objs f k (j + 1)) [bx] k ms2 u0) := fun hn => by
              have := HNX.out
              rw [hn, if_neg (by simp)] at this
              exact hS2.objs this.symm
            have HYE : Hid ((mf == 1 && looseB X.objs f (e1, e2)) = true → CS w4 (put2 wr q j (0, 0)) V.heap.size P Q (.slice (some ⟨b, off, none⟩) ms.length c1) (.slice a2 n2 c2) (.slice a3 n3 c3) (.slice va zs.length vc) ms.length X f zs (looseJ X.objs f k (j + 1)) [bx] k (ms2.set k { ms2.getD k moD with slots := (ms2.getD k moD).slots.set j (0, 0) }) u0 ∧ (((ms2.set k { ms2.getD k moD with slots := (ms2.getD k moD).slots.set j (0, 0) }).getD k moD).id = mi ∧ ((ms2.set k { ms2.getD k moD with slots := (ms2.getD k moD).slots.set j (0, 0) }).getD k moD).cls = mc ∧ ((ms2.set k { ms2.getD k moD with slots := (ms2.getD k moD).slots.set j (0, 0) }).getD k moD).fmt = mf ∧ ((ms2.set k { ms2.getD k moD with slots := (ms2.getD k moD).slots.set j (0, 0) }).getD k moD).hash = mh ∧ ((ms2.set k { ms2.getD k moD with slots := (ms2.getD k moD).slots.set j (0, 0) }).getD k moD).sv = .slice (some ⟨q, 0, none⟩) sn sc) ∧ (put2 wr q j (0, 0)).heap[bx]? = some (ob ⟨mi, mc, mf, mh, .slice (some ⟨q, 0, none⟩) sn sc, []⟩)) := fun hn => by
              have := HNX.out
              rw [hn, if_pos rfl] at this
              obtain ⟨t1, t2⟩ := hS2.slot hlt hmm2.2.2.2.2 j
              obtain ⟨g1, g2, g3, g4⟩ := set_cells ms2 k k ((ms2.getD k moD).slots.set j (0, 0))
              exact ⟨t1.objs this.symm, ⟨g1.trans hmm2.1, g2.trans hmm2.2.1, g3.trans hmm2.2.2.1, g4.trans hmm2.2.2.2.1, (set_sv ms2 k k _).trans hmm2.2.2.2.2⟩, (t2 bx (by simp)).trans ht2⟩
            have HMM2 : Hid _ := hmm2
            have HT2 : Hid _ := ht2
            clear hS2 es2 ej el2 hOR ee hok HNX hee hmm2 ht2
            by_cases h1 : mf = 1
            · subst h1
              by_cases h2 : e1 = 2
              · subst h2
                cases hd : decide (e2 ∈ zs)
                · rw [hd] at LH2 hPL
                  have HY : Hid _ := HYE.out (by rw [← hPL]; rfl)
                  clear HYE HNO hPL hd HMM2 HT2
                  go_wp2_with (go_at_call 62; refine LH2.mono ?_; clear LH2; rintro e w9 ⟨rfl, hw9⟩; rw [hw9]; clear hw9 w9)
                  exact ⟨⟨j + 1, _, by omega, by go_num, HY.out⟩, by simp [intOf]; omega⟩
                · rw [hd] at LH2 hPL
                  have HY : Hid _ := HNO.out (by rw [← hPL]; rfl)
                  clear HYE HNO hPL hd
                  go_wp2_with (go_at_call 62; refine LH2.mono ?_; clear LH2; rintro e w9 ⟨rfl, hw9⟩; rw [hw9]; clear hw9 w9)
                  exact ⟨⟨j + 1, ms2, by omega, by go_num, HY.out, HMM2.out, HT2.out⟩, by simp [intOf]; omega⟩
              · have h2' : (e1 == 2) = false := by simpa using h2
                have HY : Hid _ := HNO.out (by rw [← hPL, h2']; rfl)
                clear HYE HNO hPL LH2
                go_wp2
                exact ⟨⟨j + 1, ms2, by omega, by go_num, HY.out, HMM2.out, HT2.out⟩, by simp [intOf]; omega⟩
            · have h1' : (mf == 1) = false := by simpa using h1
              have HY : Hid _ := HNO.out (by rw [h1']; rfl)
              clear HYE HNO hPL LH2
              go_wp2
              exact ⟨⟨j + 1, ms2, by omega, by go_num, HY.out, HMM2.out, HT2.out⟩, by simp [intOf]; omega⟩
          · have e : j = sn := by omega
            subst e
            have hjl' : ¬ (j : Int) < (j : Int) := by omega
            have hS3 := hS2.objs (show looseJ X.objs f k j = looseK X.objs f (k + 1) by rw [HEL.out]; exact looseJ_all hkx hfk)
            obtain ⟨q0, _⟩ := five_cells hS3.five
            have lQ := lt_of_block hS3.five
            have bA : Below wr.heap.size wr (wr.alloc (ob ⟨mi, mc, mf, mh, .slice sa j sc, []⟩)) := (Below.refl _ _).alloc (Nat.le_refl _) _
            have hS4 := hS3.below bA hw2
            have hM : cellsO [ms2.getD k moD] = cellsO [⟨mi, mc, mf, mh, .slice sa j sc, []⟩] := by
              simp only [cellsO, hmm2.1, hmm2.2.1, hmm2.2.2.1, hmm2.2.2.2.1, hmm2.2.2.2.2]
            have hkl := keptM_len ms2 f k
            have HTOLD : Hid (∀ (v' : Value) (w' : World), _ → _ → _) := fun v' w' h1 h2 => hS4.told (v' := v') (w' := w') hfk hQb hM h1 h2
            have HROW : Hid _ := hS4.row
            have HNW : Hid (∀ i u, (cellsO [⟨mi, mc, mf, mh, .slice sa j sc, []⟩])[i]? = some u → (wr.alloc (ob ⟨mi, mc, mf, mh, .slice sa j sc, []⟩)).cell? ((⟨wr.heap.size, 0, none⟩ : Addr).add i) = some u) := World.news_of_block (heap_alloc_new wr (ob ⟨mi, mc, mf, mh, .slice sa j sc, []⟩))
            have HON : Hid (∀ u ∈ cellsO [⟨mi, mc, mf, mh, .slice sa j sc, []⟩], u.oneCell' = true) := cellsO_one (fun x hx => by rw [List.mem_singleton] at hx; subst hx; exact ⟨_, _, _, rfl⟩)
            have hba : Q + 1 ≤ (wr.alloc (ob ⟨mi, mc, mf, mh, .slice sa j sc, []⟩)).heap.size := by simp; omega
            obtain ⟨ua, un, uc, hus⟩ : ∃ a n c, u0 = .slice a n c := by
              obtain ⟨h0, ⟨h1, h2⟩ | ⟨g, cap, cur, h1, _⟩⟩ := hS4.row
              · exact ⟨_, _, _, h1⟩
              · exact ⟨_, _, _, h1⟩
            subst hus
            generalize (keptM ms2 f k).length = qn at *
            generalize cellsO (keptM ms2 f k) = qc at *
            obtain ⟨i0, hi, hz0, hz1, hz2⟩ := info_parts infoO
            have HI : Hid _ := And.intro hi (And.intro hz0 (And.intro hz1 hz2))
            clear hi hz0 hz1 hz2 hS2 hS3 hS4 bA hM hmm2 ht2
            go_wp2_with (refine wpList_append_own_at _ rfl (.tmp 70) (.tmp 72) 29 rfl (Q + 1) 51 i0 (.agg #[.int .i64 0, .int .i64 0, .int .i64 0, .int .i64 0, .slice none 0 0]) 5 56 Try.underlying29 HI.out.1 HI.out.2.1 HI.out.2.2.1 HI.out.2.2.2 rfl (by decide) (.slice ua un uc) qn qc rfl HROW.out ⟨wr.heap.size, 0, none⟩ 1 1 (cellsO [⟨mi, mc, mf, mh, .slice sa j sc, []⟩]) rfl rfl HNW.out HON.out (by unfold maxLen; omega) (by omega) hba ?_; intro v' w5 hown hgrow _ hat; obtain ⟨t0, t1, ⟨va', vn', vc', rfl⟩, st⟩ := HTOLD.out v' w5 hown hgrow; have HST : Hid _ := st; clear st hown hgrow hat)
            exact ⟨⟨k + 1, ms2, _, by omega, by go_num, HST.out⟩, by simp [intOf]; omega⟩
    · have e : k = ms.length := by omega
      subst e
      have hlt' : ¬ (ms.length : Int) < (ms.length : Int) := by omega
      obtain ⟨q0, q1, q2, q3, q4, _⟩ := five_cells hS.five
      have TR : Five wr (n0 + 1) 32 (.slice none 0 0) (.slice none 0 0) (.slice none 0 0) (.int .i64 0) (.int .i64 0) := (hS.bel.block (n0 + 1) (by omega)).trans HTR4.out
      obtain ⟨v0, v1, v2, v3, v4, vf⟩ := five_cells TR
      have g0 := vf 0
      have g1 := vf 1
      have g2 := vf 2
      have g3 := vf 3
      have g4 := vf 4
      have sub : List.Sublist (keptM ms' f ms.length) ms' := by
        have := keptM_sub ms' f
        rw [hS.len] at this
        exact this
      have O6 := ownG_sub hS.ho.2.1 sub (ownRow_base hS.row (show V.heap.size ≤ Q + 1 by omega)) (fun x hx => by
        have h1 := (blk_lt hS.row x hx).1
        refine ⟨fun e => ?_, fun e => ?_, fun e => ?_⟩
        · have := hS.lt x (by simp only [gblk, List.mem_append]; exact .inl (.inl (.inr e))); omega
        · have := hS.lt x (by simp only [gblk, List.mem_append]; exact .inl (.inr e)); omega
        · have := hS.lt x (by simp only [gblk, List.mem_append]; exact .inr e); omega)
      have eC : (keptM ms' f ms.length).map MO.abs = collO X.objs f X.objs.length := by
        have e1 : ms'.map MO.abs = looseK X.objs f ms.length := hS.ho.2.1.1
        rw [keptM_abs, e1, HLEN.out, ← collO_of _ (Nat.le_refl _)]
      rw [eC] at O6
      obtain ⟨ua, un, uc, hus⟩ : ∃ a n c, u0 = .slice a n c := by
        obtain ⟨h0, ⟨h1, h2⟩ | ⟨g, cap, cur, h1, _⟩⟩ := hS.row
        · exact ⟨_, _, _, h1⟩
        · exact ⟨_, _, _, h1⟩
      subst hus
      have B6 : Below n0 w wr := HB4.out.trans (hS.bel.mono (by omega))
      have HOW : Hid (OwnG _ n0 (.slice ua un uc) (.slice a2 n2 c2) (.slice a3 n3 c3) (keptM ms' f ms.length) (collG X f)) := ownG_base (ownG_ch O6 (five_other (X := wr) (b := n0 + 1) (.slice ua un uc) (.slice a2 n2 c2) (.slice a3 n3 c3) (.int .i64 X.next) (.int .i64 X.seed)) (fun x hx e => by have := (ownG_lt O6 x hx).1; rw [List.mem_singleton] at e; omega)) (show n0 ≤ V.heap.size by omega)
      have HTX : Hid _ := five_sets TR (.slice ua un uc) (.slice a2 n2 c2) (.slice a3 n3 c3) (.int .i64 X.next) (.int .i64 X.seed)
      have HBX : Hid _ := five_belows B6 (show n0 ≤ n0 + 1 by omega) (.slice ua un uc) (.slice a2 n2 c2) (.slice a3 n3 c3) (.int .i64 X.next) (.int .i64 X.seed)
      clear vf TR hS O6 eC sub B6
      go_wp2
      first
        | exact bodyPost_ret (res_gr rfl rfl HTX.out) rfl ⟨_, _, _, rfl, ⟨_, HOW.out⟩, HBX.out⟩
        | exact bodyPost_ret (res_gr rfl rfl HTX.out) rfl ⟨_, _, _, _, rfl, HOW.out, HBX.out⟩

set_option maxHeartbeats 8000000 in
theorem sCollected_any {w : World} {o r m : Value} {ms : List MO} {G R : Gr} (h : GraphAt w o r m ms G) (hs : gSize ms G ≤ 1048576) (hR : gOk G = true → Collects G R) (h0 : gOk G = false → R = gr0) :
    Calls Try.prog 22 #[gv o r m G.next G.seed] w fun e w' => ∃ o' r' m' rs, e = .returned (gv o' r' m' R.next R.seed) ∧ OwnG w' w.heap.size o' r' m' rs R ∧ Below w.heap.size w w' := by
  obtain ⟨a1, n1, c1, a2, n2, c2, a3, n3, c3, e1, e2, e3⟩ := graphAt_slices h
  subst e1 e2 e3
  generalize hn0 : w.heap.size = n0 at *
  have B0 : Below n0 w ((w.alloc (gb (.slice a1 n1 c1) (.slice a2 n2 c2) (.slice a3 n3 c3) G.next G.seed)).alloc (gb (.slice none 0 0) (.slice none 0 0) (.slice none 0 0) 0 0)) := (((Below.refl _ w).alloc (by first | omega | (simp; omega)) _).alloc (by first | omega | (simp; omega)) _)
  have TP : Five ((w.alloc (gb (.slice a1 n1 c1) (.slice a2 n2 c2) (.slice a3 n3 c3) G.next G.seed)).alloc (gb (.slice none 0 0) (.slice none 0 0) (.slice none 0 0) 0 0)) n0 32 (.slice a1 n1 c1) (.slice a2 n2 c2) (.slice a3 n3 c3) (.int .i64 G.next) (.int .i64 G.seed) := by
    rw [← hn0]
    exact heap_push (heap_alloc_new _ _)
  have TR : Five ((w.alloc (gb (.slice a1 n1 c1) (.slice a2 n2 c2) (.slice a3 n3 c3) G.next G.seed)).alloc (gb (.slice none 0 0) (.slice none 0 0) (.slice none 0 0) 0 0)) (n0 + 1) 32 (.slice none 0 0) (.slice none 0 0) (.slice none 0 0) (.int .i64 0) (.int .i64 0) := by
    rw [show n0 + 1 = (w.alloc (gb (.slice a1 n1 c1) (.slice a2 n2 c2) (.slice a3 n3 c3) G.next G.seed)).heap.size by simp; omega]
    exact heap_alloc_new _ _
  have hX : n0 + 2 ≤ ((w.alloc (gb (.slice a1 n1 c1) (.slice a2 n2 c2) (.slice a3 n3 c3) G.next G.seed)).alloc (gb (.slice none 0 0) (.slice none 0 0) (.slice none 0 0) 0 0)).heap.size := by simp; omega
  have HG : Hid (∀ {X : World}, Below n0 w X → GraphAt X (.slice a1 n1 c1) (.slice a2 n2 c2) (.slice a3 n3 c3) ms G) := fun {X} hb => graphAt_below h (by rw [hn0]; exact hb)
  have GO := sGraphOk_any (HG.out B0) hs
  have HC : Hid _ := hR
  have HE : Hid _ := h0
  clear h hR h0
  go_enter Try.func22, Try.ntmps22
  go_wp2_with fail
  generalize ((w.alloc (gb (.slice a1 n1 c1) (.slice a2 n2 c2) (.slice a3 n3 c3) G.next G.seed)).alloc (gb (.slice none 0 0) (.slice none 0 0) (.slice none 0 0) 0 0)) = X at *
  refine GO.mono ?_
  rintro e w1 ⟨rfl, b1⟩
  have B1 := B0.trans (b1.mono (by omega))
  have TP1 := five_below TP b1
  have TR1 := five_below TR b1
  have s1 : n0 + 2 ≤ w1.heap.size := Nat.le_trans hX b1.size
  clear GO TP TR B0 b1 hX
  cases ok : gOk G
  · have ERG := HE.out ok
    subst ERG
    obtain ⟨v0, v1, v2, v3, v4, vf⟩ := five_cells TR1
    have g0 := vf 0
    have g1 := vf 1
    have g2 := vf 2
    have g3 := vf 3
    have g4 := vf 4
    have HTX : Hid _ := five_sets TR1 (.slice none 0 0) (.slice none 0 0) (.slice none 0 0) (.int .i64 0) (.int .i64 0)
    have HBX : Hid _ := five_belows B1 (show n0 ≤ n0 + 1 by omega) (.slice none 0 0) (.slice none 0 0) (.slice none 0 0) (.int .i64 0) (.int .i64 0)
    clear HC HG HE TP1 TR1 B1 vf
    go_wp2
    exact bodyPost_ret (res_gr rfl rfl HTX.out) rfl ⟨_, _, _, [], rfl, ownG_zero _ _, HBX.out⟩
  · have CL := l7Collected_any (HG.out B1) hs ok (HC.out ok)
    obtain ⟨z0, z1, z2, z3, z4, _⟩ := five_cells TP1
    have HTR1 : Hid _ := TR1
    have HB1 : Hid _ := B1
    clear HC HG HE TP1 TR1 B1
    go_wp2_with fail
    refine CL.mono ?_
    rintro e w4 ⟨o4, r4, m4, rs, rfl, O4, b4⟩
    have TR4 := five_below HTR1.out b4
    have B4 := HB1.out.trans (b4.mono (by omega))
    obtain ⟨a1, n1, c1, a2, n2, c2, a3, n3, c3, e1, e2, e3⟩ := graphAt_slices (ownG_at O4)
    subst e1 e2 e3
    obtain ⟨v0, v1, v2, v3, v4, vf⟩ := five_cells TR4
    have g0 := vf 0
    have g1 := vf 1
    have g2 := vf 2
    have g3 := vf 3
    have g4 := vf 4
    have HOW : Hid _ := ownG_base (ownG_ch O4 (five_other (X := w4) (b := n0 + 1) (.slice a1 n1 c1) (.slice a2 n2 c2) (.slice a3 n3 c3) (.int .i64 R.next) (.int .i64 R.seed)) (fun x hx e => by have := (ownG_lt O4 x hx).1; rw [List.mem_singleton] at e; omega)) (show n0 ≤ w1.heap.size by omega)
    have HTX : Hid _ := five_sets TR4 (.slice a1 n1 c1) (.slice a2 n2 c2) (.slice a3 n3 c3) (.int .i64 R.next) (.int .i64 R.seed)
    have HBX : Hid _ := five_belows B4 (show n0 ≤ n0 + 1 by omega) (.slice a1 n1 c1) (.slice a2 n2 c2) (.slice a3 n3 c3) (.int .i64 R.next) (.int .i64 R.seed)
    clear vf O4 B4 TR4 HB1 HTR1 CL b4 z0 z1 z2 z3 z4
    go_wp2
    exact bodyPost_ret (res_gr rfl rfl HTX.out) rfl ⟨_, _, _, rs, rfl, HOW.out, HBX.out⟩
end Go.Proofs.Ytdogibjgogcdkal.gr
namespace Go.Proofs.Ytdogibjgogcdkal.gr
open Go.RowKit rows heads

theorem coll_mem {X : Gr} (h : Right X) {f : Nat → Bool} {o : Ob} (ho : o ∈ (collG X f).objs) : o.slots.length ≤ 20 := by
  obtain ⟨p, hp, rfl⟩ := List.mem_map.1 ho
  have hp := List.mem_range.1 (List.mem_filter.1 hp).1
  rw [looseO_slots]
  have := (hok_true (obOk_lt (h.ob p hp)).2.2.2).2.1
  omega
theorem coll_small {X : Gr} (h : Right X) (f : Nat → Bool) : Small (collG X f) := by
  intro rs er
  have hp := head_parts h.head
  have l1 : rs.length = (collG X f).objs.length := by rw [← er]; simp
  have l2 : slotsLen rs = slotsOf (collG X f).objs := by rw [slotsOf_abs, er]
  have lc : (collG X f).objs.length ≤ X.objs.length := by
    show (collO X.objs f X.objs.length).length ≤ _
    unfold collO
    rw [List.length_map]
    exact Nat.le_trans (List.length_filter_le _ _) (by simp)
  have l3 := slotsOf_le (collG X f).objs (fun i hi => by
    have := coll_mem h (f := f) (o := (collG X f).objs.getD i obD) (by rw [List.getD_eq_getElem?_getD, List.getElem?_eq_getElem hi]; exact List.getElem_mem hi)
    omega)
  have e1 : (collG X f).roots = X.roots := rfl
  have e2 : (collG X f).mourned = X.mourned := rfl
  unfold gSize
  rw [e1, e2]
  omega
end Go.Proofs.Ytdogibjgogcdkal.gr
