/-
  Chapter 6 as the specification has it: Canon.
  Made from the template CanS7 (mkcans7.py, CanS7.head, regtail.py).
-/
import Derived.Test.YtcboojhabolcbaaGreatDoorM10
import Derived.Test.YtcboojhabolcbaaGreatDoorCanI5
import Derived.ArgAppend
namespace Go.Proofs.YtcboojhabolcbaaGreatDoor.gr
open Go.RowKit rows heads ents region
set_option maxRecDepth 100000
set_option linter.unusedVariables false
set_option linter.unusedSimpArgs false

theorem cellsT_app (a b : List (List UInt8)) : cellsT (a ++ b) = cellsT a ++ cellsT b := List.map_append
theorem strsT_slice {w : World} {v : Value} {ss : List (List UInt8)} (h : StrsAt w v ss) : ∃ a c, v = .slice a ss.length c := by
  obtain ⟨a, c, e, _⟩ := h
  exact ⟨a, c, e⟩
theorem strsT_news {w : World} {ad : Addr} {n cap : Nat} {ss : List (List UInt8)} (h : StrsAt w (.slice (some ad) n cap) ss) : ∀ j u, (cellsT ss)[j]? = some u → w.cell? (ad.add j) = some u := fun j u hu => by
  obtain ⟨a, c, e, _, _, _, h3⟩ := h
  have hj : j < ss.length := by
    have := (List.getElem?_eq_some_iff.1 hu).1
    rwa [cellsT_length] at this
  obtain ⟨b, off, ea, _, hc⟩ := h3 (by omega)
  injection e with e _ _
  rw [ea] at e
  injection e with e
  subst e
  have ha : (⟨b, off, none⟩ : Addr).add j = ⟨b, off + j, none⟩ := by unfold Addr.add; split <;> simp_all
  rw [ha, hc j hj, ← hu]
  simp [cellsT, List.getElem?_eq_getElem hj, List.getD_eq_getElem?_getD]
theorem cellsT_one (ss : List (List UInt8)) : ∀ u ∈ cellsT ss, u.oneCell' = true := fun u hu => by
  obtain ⟨s, _, rfl⟩ := List.mem_map.1 hu
  rfl
theorem ownT_base {w : World} {base base' : Nat} {v : Value} {ws : List (List UInt8)} (h : OwnT w base v ws) (hb : base' ≤ base) : OwnT w base' v ws := by
  obtain ⟨h0, ⟨h1, h2⟩ | ⟨g, cap, cur, h1, hg, hh, hle, hm, hs, ht⟩⟩ := h
  · exact ⟨h0, .inl ⟨h1, h2⟩⟩
  · exact ⟨h0, .inr ⟨g, cap, cur, h1, Nat.le_trans hb hg, hh, hle, hm, hs, ht⟩⟩
/-- append of a list of texts. -/
theorem run_appT {w : World} {base : Nat} {v x : Value} {ws us : List (List UInt8)} (h : OwnT w base v ws) (hx : StrsAt w x us) (hl : ws.length + us.length ≤ 1000000) (hb : base ≤ w.heap.size) (ty : TypeId) :
    ∃ a c w', (Builtin.append_ #[63, 63] ty #[v, x]).run Tryz.prog w = .ok (.slice a (ws ++ us).length c) w' ∧ OwnT w' base (.slice a (ws ++ us).length c) (ws ++ us) ∧ Below base w w' := by
  obtain ⟨i0, hi, hz0, hz1, hz2⟩ := info_parts infoS
  obtain ⟨ad, cap, e, hlc, hcm, hnil, _⟩ := id hx
  subst e
  cases ad with
  | some ad =>
    obtain ⟨v', w', hr, h2, h3, _, h5⟩ := run_append_own_at (P := Tryz.prog) w base 63 ty 9 i0 (.string ⟨#[]⟩) 1 16 Tryz.underlying63 hi hz0 hz1 hz2 rfl (by decide) v ws.length (cellsT ws) h ad us.length cap (cellsT us) (by rw [cellsT_length]; omega) (strsT_news hx) (cellsT_one us) (by unfold maxLen; omega) (by omega) hb
    have O' : OwnT w' base v' (ws ++ us) := by
      show World.ownsRow _ _ _ _ _ _ _
      rw [List.length_append, cellsT_app]
      exact h2
    obtain ⟨a, c, rfl⟩ := strsT_slice (ownT_strs O')
    exact ⟨a, c, w', hr, O', (Below.refl base w).grown h3 hb (fun k hk => (World.ownsRow.lt h k hk).1)⟩
  | none =>
    have hc := hnil rfl
    have hy : us = [] := List.eq_nil_of_length_eq_zero (by omega)
    subst hy hc
    have hrun := run_append_owned_none (P := Tryz.prog) (w := w) base 63 ty 9 i0 1 Tryz.underlying63 hi v ws.length (cellsT ws) h
    obtain ⟨a, c, rfl⟩ := strsT_slice (ownT_strs h)
    rw [List.append_nil]
    exact ⟨a, c, w, hrun, h, Below.refl _ _⟩
/-- append to a row that is full: what is made is new. -/
theorem run_appF {w : World} {base g : Nat} {x : Value} {ws us : List (List UInt8)} (h : OwnT w base (.slice (some ⟨g, 0, none⟩) ws.length ws.length) ws) (hx : StrsAt w x us) (hl : ws.length + us.length ≤ 1000000) (ty : TypeId) :
    ∃ a c w', (Builtin.append_ #[63, 63] ty #[.slice (some ⟨g, 0, none⟩) ws.length ws.length, x]).run Tryz.prog w = .ok (.slice a (ws ++ us).length c) w' ∧ StrsAt w' (.slice a (ws ++ us).length c) (ws ++ us) ∧ Below w.heap.size w w' := by
  obtain ⟨i0, hi, hz0, hz1, hz2⟩ := info_parts infoS
  obtain ⟨ad, cap, e, hlc, hcm, hnil, _⟩ := id hx
  subst e
  have hS := ownT_strs h
  cases ad with
  | some ad =>
    rcases Nat.eq_zero_or_pos us.length with h0 | hp
    · have hy : us = [] := List.eq_nil_of_length_eq_zero h0
      subst hy
      have hr := run_append_room_cells (P := Tryz.prog) w 63 ty 9 i0 Tryz.underlying63 hi g 0 ws.length ws.length ad 0 cap [] (by simp) (fun j u hu => by simp at hu) (fun u hu => by cases hu) (Nat.le_refl _) (fun j hj => by simp at hj) (fun j hj => by simp at hj)
      rw [List.append_nil]
      exact ⟨_, _, w, hr, hS, Below.refl _ _⟩
    · obtain ⟨v', w', hr, h2, h3⟩ := run_append_arg_grows (P := Tryz.prog) w 63 ty 9 i0 (.string ⟨#[]⟩) 1 16 Tryz.underlying63 hi hz0 hz1 hz2 rfl (by decide) ⟨g, 0, none⟩ ws.length ws.length (cellsT ws) (by rw [cellsT_length]; omega) (strsT_news hS) ad us.length cap (cellsT us) (by rw [cellsT_length]; omega) (strsT_news hx) (by omega) (by unfold maxLen; omega) (by omega)
      have O' : OwnT w' w.heap.size v' (ws ++ us) := by
        show World.ownsRow _ _ _ _ _ _ _
        rw [List.length_append, cellsT_app]
        exact h2
      obtain ⟨a, c, rfl⟩ := strsT_slice (ownT_strs O')
      exact ⟨a, c, w', hr, ownT_strs O', (Below.refl _ w).grown h3 (Nat.le_refl _) (fun k hk => by cases hk)⟩
  | none =>
    have hc := hnil rfl
    have hy : us = [] := List.eq_nil_of_length_eq_zero (by omega)
    subst hy hc
    have hrun := run_append_owned_none (P := Tryz.prog) (w := w) base 63 ty 9 i0 1 Tryz.underlying63 hi (.slice (some ⟨g, 0, none⟩) ws.length ws.length) ws.length (cellsT ws) h
    rw [List.append_nil]
    exact ⟨_, _, w, hrun, hS, Below.refl _ _⟩
theorem Right.kinds {G : Gr} (h : Right G) {rs : List Rf} (hr : ∀ r ∈ rs, refOk G.objs r = true ∧ I64 r.2 ∧ (r.1 = 2 → r.2 ∈ ordG G)) : ∀ r ∈ rs, (r.1 = 0 ∨ r.1 = 1 ∨ r.1 = 2) ∧ I64 r.2 ∧ (r.1 = 2 → r.2 ∈ ordG G) := fun r hm => by
  obtain ⟨h1, h2, h3⟩ := hr r hm
  refine ⟨?_, h2, h3⟩
  unfold refOk at h1
  split at h1
  · rename_i e; exact .inl e
  · split at h1
    · rename_i e; exact .inr (.inl e)
    · simp only [Bool.and_eq_true, beq_iff_eq] at h1
      exact .inr (.inr h1.1)
def dCs2 (k : Nat) : Nat := match k with
  | 0 => 9
  | 1 => 10
  | 2 => 11
  | 3 => 12
  | 4 => 13
  | 5 => 14
  | 6 => 15
  | 7 => 16
  | _ => 2000
theorem dCs2_inj : ∀ k, k < 8 → ∀ j, j < 8 → dCs2 j = dCs2 k → j = k := by decide
def DCs2 (s : Nat) : Bool := s == 4 || s == 9 || s == 10 || s == 11 || s == 12 || s == 13 || s == 14 || s == 15 || s == 16 || s == 17 || s == 18 || s == 19
def FCs2 (oa a2 a3 : Option Addr) (no oc n2 c2 n3 c3 Pb B : Nat) (wr' wm' : List (List UInt8)) (k : Nat) (t : Value) (W : World) : Prop :=
  match k with
  | 0 => t = .slice oa no oc
  | 1 => t = .pointer (some ⟨Pb, 1, none⟩)
  | 2 => t = .slice a2 n2 c2
  | 3 => ∃ a c, t = .slice a wr'.length c ∧ OwnT W B (.slice a wr'.length c) wr'
  | 4 => t = .slice oa no oc
  | 5 => t = .pointer (some ⟨Pb, 2, none⟩)
  | 6 => t = .slice a3 n3 c3
  | 7 => ∃ a c, t = .slice a wm'.length c ∧ StrsAt W (.slice a wm'.length c) wm'
  | _ => False

def MCs2 (X : World) (wr' wm' : List (List UInt8)) (T : List UInt8) (j : Nat) (u : Nat → Value) (W : World) : Prop :=
  match j with
  | 0 => Below X.heap.size X W ∧ (∃ a c, u 12 = .slice a wr'.length c ∧ OwnT W X.heap.size (.slice a wr'.length c) wr') ∧ ∃ a c, u 16 = .slice a wm'.length c ∧ StrsAt W (.slice a wm'.length c) wm'
  | 1 => Below X.heap.size X W ∧ ∃ a c, u 17 = .slice a (wr' ++ wm').length c ∧ StrsAt W (.slice a (wr' ++ wm').length c) (wr' ++ wm')
  | 2 => Below X.heap.size X W ∧ u 18 = .string (bs T)
  | 3 => Below X.heap.size X W ∧ ∃ a n c, u 19 = .slice a n c ∧ ByC W X.heap.size (.slice a n c) T
  | _ => Below X.heap.size X W ∧ ∃ a n c, u 4 = .slice a n c ∧ ByC W X.heap.size (.slice a n c) T
def dCs6 (k : Nat) : Nat := match k with
  | 0 => 26
  | 1 => 27
  | 2 => 28
  | 3 => 29
  | 4 => 30
  | 5 => 31
  | 6 => 32
  | 7 => 33
  | 8 => 34
  | 9 => 35
  | 10 => 6
  | _ => 2000
theorem dCs6_inj : ∀ k, k < 11 → ∀ j, j < 11 → dCs6 j = dCs6 k → j = k := by decide
def DCs6 (s : Nat) : Bool := s == 6 || s == 26 || s == 27 || s == 28 || s == 29 || s == 30 || s == 31 || s == 32 || s == 33 || s == 34 || s == 35
def FCs6 (VO VG VI VA VE VM : Value) (kq p Pb B : Nat) (x : Int) (k : Nat) (t : Value) (W : World) : Prop :=
  match k with
  | 0 => t = .pointer (some ⟨Pb, 0, none⟩)
  | 1 => t = VO
  | 2 => t = VG
  | 3 => t = VI
  | 4 => t = .int .i64 (kq : Int)
  | 5 => t = VA
  | 6 => t = .int .i64 x
  | 7 => t = .int .i64 (p : Int)
  | 8 => t = VE
  | 9 => t = VM
  | 10 => ∃ g, t = .pointer (some ⟨g, 0, none⟩) ∧ B ≤ g ∧ Five W g 47 (.int .i64 0) (.int .i64 0) (.int .i64 0) (.int .i64 0) (.slice none 0 0)
  | _ => False

def MCs6 (X : World) (VM : Value) (m : MO) (j : Nat) (u : Nat → Value) (W : World) : Prop :=
  match j with
  | 0 => Below X.heap.size X W ∧ u 35 = VM ∧ ∃ g, u 6 = .pointer (some ⟨g, 0, none⟩) ∧ X.heap.size ≤ g ∧ Five W g 47 (.int .i64 0) (.int .i64 0) (.int .i64 0) (.int .i64 0) (.slice none 0 0)
  | _ => Below X.heap.size X W ∧ ∃ g, u 6 = .pointer (some ⟨g, 0, none⟩) ∧ X.heap.size ≤ g ∧ W.heap[g]? = some (ob m)
def dCs7 (k : Nat) : Nat := match k with
  | 0 => 36
  | 1 => 37
  | 2 => 38
  | 3 => 39
  | 4 => 40
  | 5 => 41
  | 6 => 42
  | 7 => 43
  | 8 => 44
  | 9 => 45
  | 10 => 46
  | 11 => 47
  | 12 => 48
  | 13 => 49
  | 14 => 50
  | 15 => 51
  | 16 => 52
  | _ => 2000
theorem dCs7_inj : ∀ k, k < 17 → ∀ j, j < 17 → dCs7 j = dCs7 k → j = k := by decide
def DCs7 (s : Nat) : Bool := s == 4 || s == 36 || s == 37 || s == 38 || s == 39 || s == 40 || s == 41 || s == 42 || s == 43 || s == 44 || s == 45 || s == 46 || s == 47 || s == 48 || s == 49 || s == 50 || s == 51 || s == 52 || s == 53
def FCs7 (ba sa : Option Addr) (bn bc ib io no oc sn sc q B : Nat) (mcl mf mh : Int) (ws2 : List (List UInt8)) (TT : List UInt8) (k : Nat) (t : Value) (W : World) : Prop :=
  match k with
  | 0 => t = .slice ba bn bc
  | 1 => t = .pointer (some ⟨q, 1, none⟩)
  | 2 => t = .int .i64 mcl
  | 3 => t = .string (bs (Lib.itoa mcl))
  | 4 => t = .pointer (some ⟨q, 2, none⟩)
  | 5 => t = .int .i64 mf
  | 6 => t = .string (bs (Lib.itoa mf))
  | 7 => t = .pointer (some ⟨q, 3, none⟩)
  | 8 => t = .int .i64 mh
  | 9 => t = .string (bs (Lib.itoa mh))
  | 10 => ∃ g, t = .slice (some ⟨g, 0, none⟩) 3 3 ∧ OwnT W B (.slice (some ⟨g, 0, none⟩) 3 3) [Lib.itoa mcl, Lib.itoa mf, Lib.itoa mh]
  | 11 => t = .slice (some ⟨ib, io, none⟩) no oc
  | 12 => t = .pointer (some ⟨q, 4, none⟩)
  | 13 => t = .slice sa sn sc
  | 14 => ∃ a c, t = .slice a ws2.length c ∧ StrsAt W (.slice a ws2.length c) ws2
  | 15 => ∃ a c, t = .slice a ([Lib.itoa mcl, Lib.itoa mf, Lib.itoa mh] ++ ws2).length c ∧ StrsAt W (.slice a ([Lib.itoa mcl, Lib.itoa mf, Lib.itoa mh] ++ ws2).length c) ([Lib.itoa mcl, Lib.itoa mf, Lib.itoa mh] ++ ws2)
  | 16 => t = (.string (bs TT) : Value)
  | _ => False

def MCs7 (X0 X : World) (bv : Value) (L T : List UInt8) (j : Nat) (u : Nat → Value) (W : World) : Prop :=
  match j with
  | 0 => Below X.heap.size X W ∧ u 36 = bv ∧ u 52 = .string (bs T)
  | 1 => Below X0.heap.size X0 W ∧ ∃ a n c, u 53 = .slice a n c ∧ ByC W X0.heap.size (.slice a n c) (L ++ T)
  | _ => Below X0.heap.size X0 W ∧ ∃ a n c, u 4 = .slice a n c ∧ ByC W X0.heap.size (.slice a n c) (L ++ T)

set_option maxHeartbeats 32000000 in
theorem l6Canon_any {w : World} {o r m : Value} {ms : List MO} {G : Gr} (h : GraphAt w o r m ms G) (hok : Right G) :
    Calls Tryz.prog 43 #[gv o r m G.next G.seed] w fun e w' => e = .returned (.string (bs (canT G))) ∧ Below w.heap.size w w' := by
  obtain ⟨a1, n1, c1, a2, n2, c2, a3, n3, c3, e1, e2, e3⟩ := graphAt_slices h
  subst e1 e2 e3
  have BP : Below w.heap.size w (w.alloc (gb (.slice a1 n1 c1) (.slice a2 n2 c2) (.slice a3 n3 c3) G.next G.seed)) := (Below.refl _ _).alloc (Nat.le_refl _) _
  have QP := heap_alloc_new w (gb (.slice a1 n1 c1) (.slice a2 n2 c2) (.slice a3 n3 c3) G.next G.seed)
  have T0 : Five (w.alloc (gb (.slice a1 n1 c1) (.slice a2 n2 c2) (.slice a3 n3 c3) G.next G.seed)) w.heap.size 27 (.slice a1 n1 c1) (.slice a2 n2 c2) (.slice a3 n3 c3) (.int .i64 G.next) (.int .i64 G.seed) := QP
  have OR := l6Order_any (graphAt_below h BP) hok
  obtain ⟨z0, z1, z2, z3, z4, _⟩ := five_cells T0
  obtain ⟨R, hR⟩ : ∃ R, bs (canT G) = R := ⟨_, rfl⟩
  rw [hR]
  have HR : Hid _ := hR
  have HT0 : Hid _ := T0
  have HBP : Hid _ := BP
  have HH : Hid _ := h
  have HOK : Hid _ := hok
  clear BP QP h hok hR T0
  go_enter Tryz.func43, Tryz.ntmps43
  go_upto_region 2 with (go_at_call 65; refine OR.mono ?_; clear OR z0 z1 z2 z3 z4; rintro e X ⟨v3, rfl, hO3, b2⟩; have HO3 : Hid _ := hO3; have HB2 : Hid _ := b2; clear hO3 b2)
  obtain ⟨oa, oc, eo, _⟩ := own_ints HO3.out
  subst eo
  have HBX : Hid _ := HBP.out.trans (HB2.out.mono HBP.out.size)
  have HTX : Hid _ := five_below HT0.out HB2.out
  obtain ⟨no, hno⟩ : ∃ n, (ordG G).length = n := ⟨_, rfl⟩
  have HNO : Hid _ := hno
  have hno200 : no ≤ 200 := by rw [← hno]; exact HOK.out.ord_len
  have HIA : Hid (IntsAt X (.slice oa no oc) (ordG G)) := by rw [← hno]; exact own_ints HO3.out
  rw [hno] at HO3 ⊢
  clear hno HB2 HT0 HBP
  have HW2 : Hid (∀ W (lv : Value) (rs : List Rf), Below X.heap.size X W → RefsAt X lv rs → rs.length ≤ 1000 → (∀ r ∈ rs, refOk G.objs r = true ∧ I64 r.2 ∧ (r.1 = 2 → r.2 ∈ ordG G)) → Calls Tryz.prog 67 #[.slice oa no oc, lv] W fun e w' => ∃ u, e = .returned u ∧ OwnT w' W.heap.size u (rs.map (wordT (ordG G))) ∧ Below W.heap.size W w') := fun W lv rs hW hrs hl hrr => l6Words_any (intsAt_below HIA.out hW) (refsAt_below hrs hW) (HOK.out.kinds hrr) (by have := HOK.out.ord_len; omega) (by omega)
  have HRX : Hid (RefsAt X (.slice a2 n2 c2) G.roots) := refsAt_below HH.out.2.2.1 HBX.out
  have HMX : Hid (RefsAt X (.slice a3 n3 c3) G.mourned) := refsAt_below HH.out.2.2.2 HBX.out
  obtain ⟨T, hT⟩ : ∃ T, lineT ((G.roots ++ G.mourned).map (wordT (ordG G))) = T := ⟨_, rfl⟩
  have HTE : Hid _ := hT
  have hTl : T.length ≤ 5000 := by rw [← hT]; exact HOK.out.line0_len
  obtain ⟨wr', hwr⟩ : ∃ x, G.roots.map (wordT (ordG G)) = x := ⟨_, rfl⟩
  obtain ⟨wm', hwm⟩ : ∃ x, G.mourned.map (wordT (ordG G)) = x := ⟨_, rfl⟩
  have HWL : Hid (wr'.length + wm'.length ≤ 46) := by
    show _ ≤ _
    rw [← hwr, ← hwm, List.length_map, List.length_map]
    have := gOk_len HOK.out.gOk
    omega
  have HLN : Hid (∀ W (a : Option Addr) (n c : Nat), StrsAt W (.slice a n c) (wr' ++ wm') → Calls Tryz.prog 66 #[.slice a n c] W fun e w' => e = .returned (.string (bs T)) ∧ w' = W) := fun W a n c hs => by
    have := l6Line_any hs (fun x hx => by
      rw [← hwr, ← hwm, ← List.map_append] at hx
      obtain ⟨r, hr, rfl⟩ := List.mem_map.1 hx
      have := HOK.out.refs r hr
      have := wordT_len this.1 (by have := HOK.out.ord_len; omega) this.2.2
      omega) (by rw [List.length_append]; have := HWL.out; omega)
    rw [← hwr, ← hwm, ← List.map_append, hT] at this
    exact this
  have HW3 : Hid (∀ W, Below X.heap.size X W → Calls Tryz.prog 67 #[.slice oa no oc, .slice a2 n2 c2] W fun e w' => ∃ u, e = .returned u ∧ OwnT w' W.heap.size u wr' ∧ Below W.heap.size W w') := fun W hW => by
    have := HW2.out W _ G.roots hW HRX.out (by have := gOk_len HOK.out.gOk; omega) (fun r hr => HOK.out.refs r (List.mem_append_left _ hr))
    rw [hwr] at this
    exact this
  have HW4 : Hid (∀ W, Below X.heap.size X W → Calls Tryz.prog 67 #[.slice oa no oc, .slice a3 n3 c3] W fun e w' => ∃ u, e = .returned u ∧ OwnT w' W.heap.size u wm' ∧ Below W.heap.size W w') := fun W hW => by
    have := HW2.out W _ G.mourned hW HMX.out (by have := gOk_len HOK.out.gOk; omega) (fun r hr => HOK.out.refs r (List.mem_append_right _ hr))
    rw [hwm] at this
    exact this
  clear hT hwr hwm
  go_cut [4] from 9 to 19 (fun v4 wz => ∃ a n c, v4 = .slice a n c ∧ Hid (ByC wz X.heap.size (.slice a n c) T) ∧ Hid (Below X.heap.size X wz))
  case first =>
    rename_i J K' HJ HK
    generalize hA0 : (Act.mk _ []) = A0
    have e1 : A0.tmps.getD 1 undef = .pointer (some ⟨w.heap.size, 0, none⟩) := by rw [← hA0]; rfl
    have e3 : A0.tmps.getD 3 undef = .slice oa no oc := by rw [← hA0]; rfl
    have sz : A0.tmps.size = 56 := by rw [← hA0]; rfl
    refine wp_region_tail (by kernel_rfl) DCs2 (by simp) ?_ 8 4 (by decide) rfl dCs2 dCs2_inj (FCs2 oa a2 a3 no oc n2 c2 n3 c3 w.heap.size X.heap.size wr' wm') ?_ ?_ ?_ ?_ (MCs2 X wr' wm' T) (fun u W hB hF => ⟨hB, hF 3 (by decide), hF 7 (by decide)⟩) ?_ ?_
    · intro k o ho
      have hk : k < 12 := (Array.getElem?_eq_some_iff.1 ho).1
      rcases (show k = 0 ∨ k = 1 ∨ k = 2 ∨ k = 3 ∨ k = 4 ∨ k = 5 ∨ k = 6 ∨ k = 7 ∨ k = 8 ∨ k = 9 ∨ k = 10 ∨ k = 11 by omega) with rfl | rfl | rfl | rfl | rfl | rfl | rfl | rfl | rfl | rfl | rfl | rfl <;> (obtain rfl := Option.some.inj ho; simp)
    · intro k t W W' hb h
      match k, h with
      | 0, h => exact h
      | 1, h => exact h
      | 2, h => exact h
      | 3, h => exact by obtain ⟨a, c, e, o⟩ := h; exact ⟨a, c, e, row_below o hb⟩
      | 4, h => exact h
      | 5, h => exact h
      | 6, h => exact h
      | 7, h => exact by obtain ⟨a, c, e, o⟩ := h; exact ⟨a, c, e, strsAt_below o hb⟩
      | _ + 8, h => exact h.elim
    · intro l hC kk hkk
      have l3 : l 3 = true := hC 8 _ rfl (fun h => by omega) (Nat.le_refl _) ⟨3, .data⟩ (by simp) (by simp [Region.binds])
      have l7 : l 7 = true := hC 8 _ rfl (fun h => by omega) (Nat.le_refl _) ⟨7, .data⟩ (by simp) (by simp [Region.binds])
      have l0 : l 0 = true := hC 3 _ rfl (fun _ => l3) (by decide) ⟨0, .data⟩ (by simp) (by simp [Region.binds])
      have l2 : l 2 = true := hC 3 _ rfl (fun _ => l3) (by decide) ⟨2, .data⟩ (by simp) (by simp [Region.binds])
      have l1 : l 1 = true := hC 2 _ rfl (fun _ => l2) (by decide) ⟨1, .data⟩ (by simp) (by simp [Region.binds])
      have l4 : l 4 = true := hC 7 _ rfl (fun _ => l7) (by decide) ⟨4, .data⟩ (by simp) (by simp [Region.binds])
      have l6 : l 6 = true := hC 7 _ rfl (fun _ => l7) (by decide) ⟨6, .data⟩ (by simp) (by simp [Region.binds])
      have l5 : l 5 = true := hC 6 _ rfl (fun _ => l6) (by decide) ⟨5, .data⟩ (by simp) (by simp [Region.binds])
      rcases (show kk = 0 ∨ kk = 1 ∨ kk = 2 ∨ kk = 3 ∨ kk = 4 ∨ kk = 5 ∨ kk = 6 ∨ kk = 7 by omega) with rfl | rfl | rfl | rfl | rfl | rfl | rfl | rfl
      · exact l0
      · exact l1
      · exact l2
      · exact l3
      · exact l4
      · exact l5
      · exact l6
      · exact l7
    · intro j hj o ho
      rcases (show j = 0 ∨ j = 1 ∨ j = 2 by omega) with rfl | rfl | rfl
      · obtain rfl := Option.some.inj ho
        exact ⟨⟨8, .data⟩, by simp, rfl, by simp [Region.binds]⟩
      · obtain rfl := Option.some.inj ho
        exact ⟨⟨9, .data⟩, by simp, rfl, by simp [Region.binds]⟩
      · obtain rfl := Option.some.inj ho
        exact ⟨⟨10, .data⟩, by simp, rfl, by simp [Region.binds]⟩
    · intro k o u W hk ho hB hU hF
      have ev : ∀ s, DCs2 s = true → s < 56 → (ovr DCs2 A0 u).tmps[s]?.getD undef = u s := fun s h1 h2 => (getD_at _ _).symm.trans (eval_in h1 (by omega))
      have o1 : (ovr DCs2 A0 u).tmps[1]?.getD undef = _ := (getD_at _ _).symm.trans ((eval_out (D := DCs2) (a0 := A0) (u := u) (s := 1) rfl (by omega)).trans e1)
      have o3 : (ovr DCs2 A0 u).tmps[3]?.getD undef = _ := (getD_at _ _).symm.trans ((eval_out (D := DCs2) (a0 := A0) (u := u) (s := 3) rfl (by omega)).trans e3)
      obtain ⟨_, z1, z2, _, _, _⟩ := five_cells (five_below HTX.out hB)
      rcases (show k = 0 ∨ k = 1 ∨ k = 2 ∨ k = 3 ∨ k = 4 ∨ k = 5 ∨ k = 6 ∨ k = 7 by omega) with rfl | rfl | rfl | rfl | rfl | rfl | rfl | rfl
      all_goals obtain rfl := Option.some.inj ho
      · refine plainV (v := .slice oa no oc) rfl rfl ?_ rfl
        simp only [execOp]
        go_simp
        try go_num
        try (rw [IntKind.wrap_i64]; omega)
      · refine plainV (v := .pointer (some ⟨w.heap.size, 1, none⟩)) rfl rfl ?_ rfl
        simp only [execOp]
        go_simp
        try go_num
        try (rw [IntKind.wrap_i64]; omega)
      · have x1 := (ev 10 rfl (by decide)).trans (hF 1 (by decide) (by simp [Region.binds]))
        refine plainV (v := .slice a2 n2 c2) rfl rfl ?_ rfl
        simp only [execOp]
        go_simp
        try go_num
        try (rw [IntKind.wrap_i64]; omega)
      · have x0 := (ev 9 rfl (by decide)).trans (hF 0 (by decide) (by simp [Region.binds]))
        have x2 := (ev 11 rfl (by decide)).trans (hF 2 (by decide) (by simp [Region.binds]))
        refine plainC (f := 67) (args := #[.slice oa no oc, .slice a2 n2 c2]) rfl rfl ?_ ((HW3.out W hB).mono ?_)
        · simp only [execOp]
          go_simp
        · rintro e w' ⟨u, rfl, ho, hb⟩
          obtain ⟨a, c, eu⟩ := strsT_slice (ownT_strs ho)
          subst eu
          exact ⟨_, rfl, hb, a, c, rfl, ownT_base ho hB.size⟩
      · refine plainV (v := .slice oa no oc) rfl rfl ?_ rfl
        simp only [execOp]
        go_simp
        try go_num
        try (rw [IntKind.wrap_i64]; omega)
      · refine plainV (v := .pointer (some ⟨w.heap.size, 2, none⟩)) rfl rfl ?_ rfl
        simp only [execOp]
        go_simp
        try go_num
        try (rw [IntKind.wrap_i64]; omega)
      · have x5 := (ev 14 rfl (by decide)).trans (hF 5 (by decide) (by simp [Region.binds]))
        refine plainV (v := .slice a3 n3 c3) rfl rfl ?_ rfl
        simp only [execOp]
        go_simp
        try go_num
        try (rw [IntKind.wrap_i64]; omega)
      · have x4 := (ev 13 rfl (by decide)).trans (hF 4 (by decide) (by simp [Region.binds]))
        have x6 := (ev 15 rfl (by decide)).trans (hF 6 (by decide) (by simp [Region.binds]))
        refine plainC (f := 67) (args := #[.slice oa no oc, .slice a3 n3 c3]) rfl rfl ?_ ((HW4.out W hB).mono ?_)
        · simp only [execOp]
          go_simp
        · rintro e w' ⟨u, rfl, ho, hb⟩
          obtain ⟨a, c, eu⟩ := strsT_slice (ownT_strs ho)
          subst eu
          exact ⟨_, rfl, hb, a, c, rfl, ownT_strs ho⟩
    · intro j o u W hj ho hM
      have ev : ∀ s, DCs2 s = true → s < 56 → (ovr DCs2 A0 u).tmps[s]?.getD undef = u s := fun s h1 h2 => (getD_at _ _).symm.trans (eval_in h1 (by omega))
      have o1 : (ovr DCs2 A0 u).tmps[1]?.getD undef = _ := (getD_at _ _).symm.trans ((eval_out (D := DCs2) (a0 := A0) (u := u) (s := 1) rfl (by omega)).trans e1)
      have o3 : (ovr DCs2 A0 u).tmps[3]?.getD undef = _ := (getD_at _ _).symm.trans ((eval_out (D := DCs2) (a0 := A0) (u := u) (s := 3) rfl (by omega)).trans e3)
      rcases (show j = 0 ∨ j = 1 ∨ j = 2 ∨ j = 3 by omega) with rfl | rfl | rfl | rfl
      all_goals obtain rfl := Option.some.inj ho
      · obtain ⟨hB, ⟨a, c, f12, o12⟩, b, d, f16, s16⟩ := hM
        obtain ⟨ra, rc, w', hr, o', b'⟩ := run_appT o12 s16 (by have := HWL.out; omega) hB.size 63
        refine tailA (s := .tmp 12) (x := .tmp 16) rfl rfl rfl ((eval_in rfl (by omega)).trans f12) ((eval_in rfl (by omega)).trans f16) hr ⟨hB.trans b', _, _, rfl, ownT_strs o'⟩
      · obtain ⟨hB, a, c, f17, s17⟩ := hM
        have x17 := (ev 17 rfl (by decide)).trans f17
        refine tailC (f := 66) (args := #[.slice a (wr' ++ wm').length c]) rfl rfl ?_ ((HLN.out W a _ c s17).mono ?_)
        · simp only [execOp]
          go_simp
        · rintro e w' ⟨rfl, hw⟩
          rw [hw]
          exact ⟨_, rfl, hB, rfl⟩
      · obtain ⟨hB, f18⟩ := hM
        have x18 := (ev 18 rfl (by decide)).trans f18
        obtain ⟨v, w', hr, hby, hbw⟩ := conv_to W T (by unfold maxLen; omega)
        obtain ⟨g, cap, ev', hrest⟩ := id hby
        subst ev'
        refine tailV (v := .slice (some ⟨g, 0, none⟩) T.length cap) (W' := w') rfl rfl ?_ ⟨hB.trans (hbw.mono hB.size), _, _, _, rfl, byC_base hby hB.size⟩
        simp only [execOp]
        go_simp
      · obtain ⟨hB, a, n, c, f19, hby⟩ := hM
        have x19 := (ev 19 rfl (by decide)).trans f19
        refine tailV (v := .slice a n c) (W' := W) rfl rfl ?_ ⟨hB, a, n, c, rfl, hby⟩
        simp only [execOp]
        go_simp
    · intro u W hM
      obtain ⟨hB, ba, bn, bc, f4, hby⟩ := hM
      have HBY : Hid _ := hby
      have HBW : Hid _ := hB
      clear hB hby
      subst hA0
      simp [ovr, DCs2, List.range, List.range.loop, f4]
      first | refine Met.intro (HJ _ _ ?_) | refine HK _ _ (Met.intro (HJ _ _ ?_))
      (repeat apply Exists.intro)
      refine ⟨?rel2, rfl⟩
      exact ⟨ba, bn, bc, rfl, HBY, HBW⟩
  obtain ⟨ba, bn, bc, rfl, HBy0, HB6⟩ := hcut
  have HC0 : Hid (T = canK G 0) := by show _ = _; rw [← HTE.out]; unfold canK; simp
  rw [HC0.out] at HBy0
  clear HW3 HW4 HLN hTl HC0
  have HOB : Hid (∀ p, p < ms.length → ∃ ob' oo, a1 = some ⟨ob', oo, none⟩ ∧ ob' < w.heap.size ∧ ∀ W, Below w.heap.size w W → (W.cell? ⟨ob', oo + p * 5, none⟩ = some (.int .i64 (ms.getD p moD).id) ∧ W.cell? ⟨ob', oo + p * 5 + 1, none⟩ = some (.int .i64 (ms.getD p moD).cls) ∧ W.cell? ⟨ob', oo + p * 5 + 2, none⟩ = some (.int .i64 (ms.getD p moD).fmt) ∧ W.cell? ⟨ob', oo + p * 5 + 3, none⟩ = some (.int .i64 (ms.getD p moD).hash) ∧ W.cell? ⟨ob', oo + p * 5 + 4, none⟩ = some (ms.getD p moD).sv)) := fun p hp => by
    obtain ⟨_, _, e, _, _, _, h3⟩ := HH.out.2.1.1
    obtain ⟨ob', oo, e2, hob, hcc⟩ := h3 (by omega)
    injection e with e _ _
    obtain ⟨d0, d1, d2, d3, d4⟩ := hcc p hp
    exact ⟨ob', oo, e.trans e2, hob, fun W hW => ⟨(hW.cell (p := ⟨ob', oo + p * 5, none⟩) hob).trans d0, (hW.cell (p := ⟨ob', oo + p * 5 + 1, none⟩) hob).trans d1, (hW.cell (p := ⟨ob', oo + p * 5 + 2, none⟩) hob).trans d2, (hW.cell (p := ⟨ob', oo + p * 5 + 3, none⟩) hob).trans d3, (hW.cell (p := ⟨ob', oo + p * 5 + 4, none⟩) hob).trans d4⟩⟩
  have hn1 : n1 = ms.length := by
    obtain ⟨_, _, e, _⟩ := HH.out.2.1.1
    injection e
  have HN1E : Hid _ := hn1
  clear hn1
  go_wp2_with fail
  go_loopw [4, 5, 6] (fun v4 v5 v6 wr => ∃ (k : Nat) (a : Option Addr) (n c : Nat), v5 = .int .i64 (k : Int) ∧ k ≤ no ∧ v4 = .slice a n c ∧ Hid (ByC wr X.heap.size (.slice a n c) (canK G k)) ∧ Hid (Below X.heap.size X wr)) (fun _ v5 _ _ => no - (intOf v5).toNat)
  case atStart => exact ⟨0, _, _, _, rfl, Nat.zero_le _, rfl, HBy0, HB6⟩
  case round =>
    obtain ⟨k, ba, bn, bc, rfl, hk, rfl, HBy, HB⟩ := hrel
    by_cases hlt : k < no
    · have hkl : k < (ordG G).length := by have := HNO.out; omega
      obtain ⟨ib, io, eia, hib, hic⟩ : ∃ ib io, oa = some ⟨ib, io, none⟩ ∧ ib < X.heap.size ∧ ∀ i, i < (ordG G).length → X.cell? ⟨ib, io + i, none⟩ = some (.int .i64 ((ordG G).getD i 0)) := by
        obtain ⟨_, _, e, _, _, _, h3⟩ := HIA.out
        obtain ⟨ib, io, e2, hib, hcc⟩ := h3 (by omega)
        injection e with e _ _
        exact ⟨ib, io, e.trans e2, hib, hcc⟩
      subst eia
      have hoc := hic k hkl
      have hin : (ordG G).getD k 0 ∈ ordG G := by rw [List.getD_eq_getElem?_getD, List.getElem?_eq_getElem hkl]; exact List.getElem_mem _
      have hnx := canK_next hkl
      obtain ⟨x, hx⟩ : ∃ x, (ordG G).getD k 0 = x := ⟨_, rfl⟩
      rw [hx] at hin hoc hnx
      have hat := (ordG_facts HOK.out).1.2 x hin
      have hsm := HOK.out.ob_small (atI_is hat).1
      have hro := HOK.out.refsO hin
      obtain ⟨p, hp⟩ : ∃ p : Nat, atI G.objs x = (p : Int) := ⟨(atI G.objs x).toNat, by omega⟩
      have hpl : p < ms.length := by
        have := (atI_is hat).1
        rw [hp, Int.toNat_natCast] at this
        have e : ms.length = G.objs.length := by rw [← HH.out.1, List.length_map]
        omega
      have hov := HH.out.2.1.2 _ (mem_getD hpl)
      have habs : G.objs.getD p obD = (ms.getD p moD).abs := by rw [← HH.out.1, abs_getD]
      have hol : (objT G.objs (ordG G) x).length ≤ 3000 := HOK.out.objT_len hin
      have hTT : objT G.objs (ordG G) x = lineT ([Lib.itoa (ms.getD p moD).cls, Lib.itoa (ms.getD p moD).fmt, Lib.itoa (ms.getD p moD).hash] ++ (ms.getD p moD).slots.map (wordT (ordG G))) := by
        unfold objT slotsI
        rw [hp, Int.toNat_natCast, habs]
        rfl
      have hsx : slotsI G.objs x = (ms.getD p moD).slots := by unfold slotsI; rw [hp, Int.toNat_natCast, habs]; rfl
      rw [hp, Int.toNat_natCast, habs] at hsm
      rw [hsx] at hro
      obtain ⟨T', hTe⟩ : ∃ T', objT G.objs (ordG G) x = T' := ⟨_, rfl⟩
      rw [hTe] at hTT hnx hol
      obtain ⟨ob', oo, ea1, hob, hcb⟩ := HOB.out p hpl
      generalize ms.getD p moD = mo at *
      obtain ⟨mi, mcl, mf, mh, msv, msl⟩ := mo
      obtain ⟨sa, sn, sc, esv⟩ := refs_slice hov
      simp only at esv hov hTT hro hcb
      subst esv
      subst ea1
      have hsm' : I64 mcl ∧ I64 mf ∧ I64 mh ∧ msl.length ≤ 20 := hsm
      have HI1 : Hid (I64 mcl) := hsm'.1
      have HI2 : Hid (I64 mf) := hsm'.2.1
      have HI3 : Hid (I64 mh) := hsm'.2.2.1
      have HML : Hid _ := hsm'.2.2.2
      have HCB : Hid _ := hcb
      have HTT : Hid _ := hTT
      have HNX : Hid _ := hnx
      have HRO : Hid _ := hro
      have HOV : Hid _ := hov
      have HOL : Hid _ := hol
      have HOY : Hid (∀ W, Below X.heap.size X W → W.cell? ⟨ib, io + k, none⟩ = some (.int .i64 x)) := fun W hW => (hW.cell (p := ⟨ib, io + k, none⟩) hib).trans hoc
      have HL6 : Hid (∀ W, Below wr.heap.size wr W → Calls Tryz.prog 68 #[gv (.slice (some ⟨ob', oo, none⟩) n1 c1) (.slice a2 n2 c2) (.slice a3 n3 c3) G.next G.seed, .int .i64 x] W fun e w' => e = .returned (.int .i64 (p : Int)) ∧ Below W.heap.size W w') := fun W hW => by
        have BW : Below w.heap.size w W := (HBX.out.trans (HB.out.mono HBX.out.size)).trans (hW.mono (Nat.le_trans HBX.out.size HB.out.size))
        have := l6At_any (graphAt_below HH.out BW) (by have e : ms.length = G.objs.length := by rw [← HH.out.1, List.length_map]
                                                       have := gOk_len HOK.out.gOk; omega) x
        rw [hp] at this
        exact this.mono fun e w' ⟨h1, h2⟩ => ⟨h1, by rw [h2]; exact (Below.refl _ _).alloc (Nat.le_refl _) _⟩
      have hk2 : (k : Int) < (no : Int) := by omega
      have hp2 : (p : Int) < (n1 : Int) := by have := HN1E.out; omega
      have HFV : Hid _ := five_below HTX.out HB.out
      clear hkl hin hnx hx hat hsm hro hpl hov habs hol hTT hsx hTe hsm' hob hcb hic hoc hib hp
      go_upto_region 6 with fail
      go_cut [5, 6] from 20 to 53 (fun v5 v6 wz => v5 = .int .i64 (k : Int) ∧ ∃ q, v6 = .pointer (some ⟨q, 0, none⟩) ∧ wr.heap.size ≤ q ∧ Hid (wz.heap[q]? = some (ob ⟨mi, mcl, mf, mh, .slice sa sn sc, msl⟩)) ∧ Hid (Below wr.heap.size wr wz))
      case first =>
        rename_i J K' HJ HK
        generalize hA0 : (Act.mk _ []) = A0
        have e1 : A0.tmps.getD 1 undef = .pointer (some ⟨w.heap.size, 0, none⟩) := by rw [← hA0]; rfl
        have e3 : A0.tmps.getD 3 undef = (.slice (some ⟨ib, io, none⟩) no oc) := by rw [← hA0]; rfl
        have e5 : A0.tmps.getD 5 undef = .int .i64 (k : Int) := by rw [← hA0]; rfl
        have sz : A0.tmps.size = 56 := by rw [← hA0]; rfl
        refine wp_region_tail (by kernel_rfl) DCs6 (by simp) ?_ 11 1 (by decide) rfl dCs6 dCs6_inj (FCs6 (.slice (some ⟨ob', oo, none⟩) n1 c1) (gv (.slice (some ⟨ob', oo, none⟩) n1 c1) (.slice a2 n2 c2) (.slice a3 n3 c3) G.next G.seed) (.slice (some ⟨ib, io, none⟩) no oc) (.pointer (some ⟨ib, io + k, none⟩)) (.pointer (some ⟨ob', oo + p * 5, none⟩)) (ov ⟨mi, mcl, mf, mh, .slice sa sn sc, msl⟩) k p w.heap.size wr.heap.size x) ?_ ?_ ?_ ?_ (MCs6 wr (ov ⟨mi, mcl, mf, mh, .slice sa sn sc, msl⟩) ⟨mi, mcl, mf, mh, .slice sa sn sc, msl⟩) (fun u W hB hF => ⟨hB, hF 9 (by decide), hF 10 (by decide)⟩) ?_ ?_
        · intro k o ho
          have hk : k < 12 := (Array.getElem?_eq_some_iff.1 ho).1
          rcases (show k = 0 ∨ k = 1 ∨ k = 2 ∨ k = 3 ∨ k = 4 ∨ k = 5 ∨ k = 6 ∨ k = 7 ∨ k = 8 ∨ k = 9 ∨ k = 10 ∨ k = 11 by omega) with rfl | rfl | rfl | rfl | rfl | rfl | rfl | rfl | rfl | rfl | rfl | rfl <;> (obtain rfl := Option.some.inj ho; simp)
        · intro k t W W' hb h
          match k, h with
          | 0, h => exact h
          | 1, h => exact h
          | 2, h => exact h
          | 3, h => exact h
          | 4, h => exact h
          | 5, h => exact h
          | 6, h => exact h
          | 7, h => exact h
          | 8, h => exact h
          | 9, h => exact h
          | 10, h => exact by obtain ⟨g, e1, e2, e3⟩ := h; exact ⟨g, e1, e2, five_below e3 hb⟩
          | _ + 11, h => exact h.elim
        · intro l hC kk hkk
          have l10 : l 10 = true := hC 11 _ rfl (fun h => by omega) (Nat.le_refl _) ⟨10, .data⟩ (by simp) (by simp [Region.binds])
          have l9 : l 9 = true := hC 11 _ rfl (fun h => by omega) (Nat.le_refl _) ⟨9, .data⟩ (by simp) (by simp [Region.binds])
          have l8 : l 8 = true := hC 9 _ rfl (fun _ => l9) (by decide) ⟨8, .data⟩ (by simp) (by simp [Region.binds])
          have l1 : l 1 = true := hC 8 _ rfl (fun _ => l8) (by decide) ⟨1, .data⟩ (by simp) (by simp [Region.binds])
          have l7 : l 7 = true := hC 8 _ rfl (fun _ => l8) (by decide) ⟨7, .data⟩ (by simp) (by simp [Region.binds])
          have l0 : l 0 = true := hC 1 _ rfl (fun _ => l1) (by decide) ⟨0, .data⟩ (by simp) (by simp [Region.binds])
          have l2 : l 2 = true := hC 7 _ rfl (fun _ => l7) (by decide) ⟨2, .data⟩ (by simp) (by simp [Region.binds])
          have l6 : l 6 = true := hC 7 _ rfl (fun _ => l7) (by decide) ⟨6, .data⟩ (by simp) (by simp [Region.binds])
          have l5 : l 5 = true := hC 6 _ rfl (fun _ => l6) (by decide) ⟨5, .data⟩ (by simp) (by simp [Region.binds])
          have l3 : l 3 = true := hC 5 _ rfl (fun _ => l5) (by decide) ⟨3, .data⟩ (by simp) (by simp [Region.binds])
          have l4 : l 4 = true := hC 5 _ rfl (fun _ => l5) (by decide) ⟨4, .data⟩ (by simp) (by simp [Region.binds])
          rcases (show kk = 0 ∨ kk = 1 ∨ kk = 2 ∨ kk = 3 ∨ kk = 4 ∨ kk = 5 ∨ kk = 6 ∨ kk = 7 ∨ kk = 8 ∨ kk = 9 ∨ kk = 10 by omega) with rfl | rfl | rfl | rfl | rfl | rfl | rfl | rfl | rfl | rfl | rfl
          · exact l0
          · exact l1
          · exact l2
          · exact l3
          · exact l4
          · exact l5
          · exact l6
          · exact l7
          · exact l8
          · exact l9
          · exact l10
        · intro j hj o ho
          omega
        · intro k o u W hk ho hB hU hF
          have ev : ∀ s, DCs6 s = true → s < 56 → (ovr DCs6 A0 u).tmps[s]?.getD undef = u s := fun s h1 h2 => (getD_at _ _).symm.trans (eval_in h1 (by omega))
          have o1 : (ovr DCs6 A0 u).tmps[1]?.getD undef = _ := (getD_at _ _).symm.trans ((eval_out (D := DCs6) (a0 := A0) (u := u) (s := 1) rfl (by omega)).trans e1)
          have o3 : (ovr DCs6 A0 u).tmps[3]?.getD undef = _ := (getD_at _ _).symm.trans ((eval_out (D := DCs6) (a0 := A0) (u := u) (s := 3) rfl (by omega)).trans e3)
          have o5 : (ovr DCs6 A0 u).tmps[5]?.getD undef = _ := (getD_at _ _).symm.trans ((eval_out (D := DCs6) (a0 := A0) (u := u) (s := 5) rfl (by omega)).trans e5)
          obtain ⟨z0, z1, z2, z3, z4, _⟩ := five_cells (five_below HFV.out hB)
          have BX1 : Below X.heap.size X W := HB.out.trans (hB.mono HB.out.size)
          have y0 := HOY.out W BX1
          obtain ⟨d0, d1, d2, d3, d4⟩ := HCB.out W (HBX.out.trans (BX1.mono HBX.out.size))
          rcases (show k = 0 ∨ k = 1 ∨ k = 2 ∨ k = 3 ∨ k = 4 ∨ k = 5 ∨ k = 6 ∨ k = 7 ∨ k = 8 ∨ k = 9 ∨ k = 10 by omega) with rfl | rfl | rfl | rfl | rfl | rfl | rfl | rfl | rfl | rfl | rfl
          all_goals obtain rfl := Option.some.inj ho
          · refine plainV (v := .pointer (some ⟨w.heap.size, 0, none⟩)) rfl rfl ?_ rfl
            simp only [execOp]
            go_simp
            try go_num
            try (rw [IntKind.wrap_i64]; omega)
          · have x0 := (ev 26 rfl (by decide)).trans (hF 0 (by decide) (by simp [Region.binds]))
            refine plainV (v := (.slice (some ⟨ob', oo, none⟩) n1 c1)) rfl rfl ?_ rfl
            simp only [execOp]
            go_simp
            try go_num
            try (rw [IntKind.wrap_i64]; omega)
          · refine plainV (v := (gv (.slice (some ⟨ob', oo, none⟩) n1 c1) (.slice a2 n2 c2) (.slice a3 n3 c3) G.next G.seed)) rfl rfl ?_ rfl
            simp only [execOp]
            go_simp
            try go_num
            try (rw [IntKind.wrap_i64]; omega)
          · refine plainV (v := (.slice (some ⟨ib, io, none⟩) no oc)) rfl rfl ?_ rfl
            simp only [execOp]
            go_simp
            try go_num
            try (rw [IntKind.wrap_i64]; omega)
          · refine plainV (v := .int .i64 (k : Int)) rfl rfl ?_ rfl
            simp only [execOp]
            go_simp
            try go_num
            try (rw [IntKind.wrap_i64]; omega)
          · have x3 := (ev 29 rfl (by decide)).trans (hF 3 (by decide) (by simp [Region.binds]))
            have x4 := (ev 30 rfl (by decide)).trans (hF 4 (by decide) (by simp [Region.binds]))
            refine plainV (v := (.pointer (some ⟨ib, io + k, none⟩))) rfl rfl ?_ rfl
            simp only [execOp]
            go_simp
            try go_num
            try (rw [IntKind.wrap_i64]; omega)
          · have x5 := (ev 31 rfl (by decide)).trans (hF 5 (by decide) (by simp [Region.binds]))
            refine plainV (v := .int .i64 x) rfl rfl ?_ rfl
            simp only [execOp]
            go_simp
            try go_num
            try (rw [IntKind.wrap_i64]; omega)
          · have x2 := (ev 28 rfl (by decide)).trans (hF 2 (by decide) (by simp [Region.binds]))
            have x6 := (ev 32 rfl (by decide)).trans (hF 6 (by decide) (by simp [Region.binds]))
            refine plainC (f := 68) (args := #[(gv (.slice (some ⟨ob', oo, none⟩) n1 c1) (.slice a2 n2 c2) (.slice a3 n3 c3) G.next G.seed), .int .i64 x]) rfl rfl ?_ ((HL6.out W hB).mono ?_)
            · simp only [execOp]
              go_simp
            · rintro e w' ⟨rfl, hb⟩
              exact ⟨_, rfl, hb, rfl⟩
          · have x1 := (ev 27 rfl (by decide)).trans (hF 1 (by decide) (by simp [Region.binds]))
            have x7 := (ev 33 rfl (by decide)).trans (hF 7 (by decide) (by simp [Region.binds]))
            refine plainV (v := (.pointer (some ⟨ob', oo + p * 5, none⟩))) rfl rfl ?_ rfl
            simp only [execOp]
            go_simp
            try go_num
            try (rw [IntKind.wrap_i64]; omega)
          · have x8 := (ev 34 rfl (by decide)).trans (hF 8 (by decide) (by simp [Region.binds]))
            refine plainV (v := (ov ⟨mi, mcl, mf, mh, .slice sa sn sc, msl⟩)) rfl rfl ?_ rfl
            simp only [execOp]
            go_simp
            try go_num
            try (rw [IntKind.wrap_i64]; omega)
          · refine plainB (v := .pointer (some ⟨W.heap.size, 0, none⟩)) (W' := W.alloc (.cells #[.int .i64 0, .int .i64 0, .int .i64 0, .int .i64 0, .slice none 0 0] 47)) rfl rfl ?_ ((Below.refl _ _).alloc (Nat.le_refl _) _) ⟨W.heap.size, rfl, hB.size, five_new _ _ _ _ _ _ _⟩
            simp only [execOp]
            go_simp
        · intro j o u W hj ho hM
          have ev : ∀ s, DCs6 s = true → s < 56 → (ovr DCs6 A0 u).tmps[s]?.getD undef = u s := fun s h1 h2 => (getD_at _ _).symm.trans (eval_in h1 (by omega))
          have o1 : (ovr DCs6 A0 u).tmps[1]?.getD undef = _ := (getD_at _ _).symm.trans ((eval_out (D := DCs6) (a0 := A0) (u := u) (s := 1) rfl (by omega)).trans e1)
          have o3 : (ovr DCs6 A0 u).tmps[3]?.getD undef = _ := (getD_at _ _).symm.trans ((eval_out (D := DCs6) (a0 := A0) (u := u) (s := 3) rfl (by omega)).trans e3)
          have o5 : (ovr DCs6 A0 u).tmps[5]?.getD undef = _ := (getD_at _ _).symm.trans ((eval_out (D := DCs6) (a0 := A0) (u := u) (s := 5) rfl (by omega)).trans e5)
          rcases (show j = 0 by omega) with rfl
          all_goals obtain rfl := Option.some.inj ho
          · obtain ⟨hB, f35, g, f6, hg, h5⟩ := hM
            have x35 := (ev 35 rfl (by decide)).trans f35
            have x6 := (ev 6 rfl (by decide)).trans f6
            obtain ⟨k0, k1, k2, k3, k4, kf⟩ := five_cells h5
            have r0 := kf 0
            have r1 := kf 1
            have r2 := kf 2
            have r3 := kf 3
            have r4 := kf 4
            refine tailS (W' := ((((W.setCell ⟨g, 0, none⟩ (.int .i64 mi)).setCell ⟨g, 1, none⟩ (.int .i64 mcl)).setCell ⟨g, 2, none⟩ (.int .i64 mf)).setCell ⟨g, 3, none⟩ (.int .i64 mh)).setCell ⟨g, 4, none⟩ (.slice sa sn sc)) rfl ?_ ⟨five_belows hB hg _ _ _ _ _, g, f6, hg, five_sets h5 _ _ _ _ _⟩
            simp only [execOp]
            go_simp
        · intro u W hM
          obtain ⟨hB, g, f6, hg, hq⟩ := hM
          have HQQ : Hid _ := hq
          have HBW : Hid _ := hB
          clear hB hq
          subst hA0
          simp [ovr, DCs6, List.range, List.range.loop, f6]
          first | refine Met.intro (HJ _ _ ?_) | refine HK _ _ (Met.intro (HJ _ _ ?_))
          (repeat apply Exists.intro)
          refine ⟨?rel6, rfl⟩
          exact ⟨rfl, g, rfl, hg, HQQ, HBW⟩
      obtain ⟨rfl, q, rfl, hqw, HQ, HBr⟩ := hcut
      obtain ⟨Y, hY⟩ : ∃ Y, Y = wc := ⟨_, rfl⟩
      subst hY
      have HBY : Hid _ := HB.out.trans (HBr.out.mono HB.out.size)
      have HByY : Hid _ := byC_below HBy.out HBr.out
      have HLI : Hid (∀ n, I64 n → ∀ W, Calls Tryz.prog 69 #[.int .i64 n] W fun e w' => e = .returned (.string (bs (Lib.itoa n))) ∧ Below W.heap.size W w') := fun n hn W => l1IntT_any n hn W
      obtain ⟨ws2, hws2⟩ : ∃ x, msl.map (wordT (ordG G)) = x := ⟨_, rfl⟩
      have HW5 : Hid (∀ W, Below Y.heap.size Y W → Calls Tryz.prog 67 #[.slice (some ⟨ib, io, none⟩) no oc, .slice sa sn sc] W fun e w' => ∃ u, e = .returned u ∧ OwnT w' W.heap.size u ws2 ∧ Below W.heap.size W w') := fun W hW => by
        have := HW2.out W (.slice sa sn sc) msl (HBY.out.trans (hW.mono HBY.out.size)) (refsAt_below HOV.out HBX.out) (by have := HML.out; omega) HRO.out
        rw [hws2] at this
        exact this
      have hws2l : ws2.length ≤ 20 := by rw [← hws2, List.length_map]; exact HML.out
      have HTW : Hid (T' = lineT ([Lib.itoa mcl, Lib.itoa mf, Lib.itoa mh] ++ ws2)) := by show _ = _; rw [← hws2]; exact HTT.out
      have HLN : Hid (∀ W (a : Option Addr) (n c : Nat), StrsAt W (.slice a n c) ([Lib.itoa mcl, Lib.itoa mf, Lib.itoa mh] ++ ws2) → Calls Tryz.prog 66 #[.slice a n c] W fun e w' => e = .returned (.string (bs T')) ∧ w' = W) := fun W a n c hs => by
        have := l6Line_any hs (fun y hy => by
          rcases List.mem_append.1 hy with hy | hy
          · simp only [List.mem_cons, List.not_mem_nil, or_false] at hy
            rcases hy with rfl | rfl | rfl
            · exact itoa_22 HI1.out
            · exact itoa_22 HI2.out
            · exact itoa_22 HI3.out
          · rw [← hws2] at hy
            obtain ⟨r, hr, rfl⟩ := List.mem_map.1 hy
            have := HRO.out r hr
            have := wordT_len this.1 (by have := HOK.out.ord_len; omega) this.2.2
            omega) (by simp only [List.length_append, List.length_cons, List.length_nil]; omega)
        rw [← HTW.out] at this
        exact this
      have HCK : Hid ((canK G k).length + T'.length ≤ 1000000000) := by show _ ≤ _; have := canK_len HOK.out k; have := HOL.out; omega
      have hYX : X.heap.size ≤ Y.heap.size := HBY.out.size
      clear hws2 HTT HFV
      go_upto_region 7 with fail
      generalize hA0 : (Act.mk _ []) = A0
      have e3 : A0.tmps.getD 3 undef = .slice (some ⟨ib, io, none⟩) no oc := by rw [← hA0]; rfl
      have e4 : A0.tmps.getD 4 undef = .slice ba bn bc := by rw [← hA0]; rfl
      have e6 : A0.tmps.getD 6 undef = .pointer (some ⟨q, 0, none⟩) := by rw [← hA0]; rfl
      have sz : A0.tmps.size = 56 := by rw [← hA0]; rfl
      refine wp_region_tail (by kernel_rfl) DCs7 (by simp) ?_ 17 2 (by decide) rfl dCs7 dCs7_inj (FCs7 ba sa bn bc ib io no oc sn sc q Y.heap.size mcl mf mh ws2 T') ?_ ?_ ?_ ?_ (MCs7 X Y (.slice ba bn bc) (canK G k) T') (fun u W hB hF => ⟨hB, hF 0 (by decide), hF 16 (by decide)⟩) ?_ ?_
      · intro k o ho
        have hk : k < 19 := (Array.getElem?_eq_some_iff.1 ho).1
        rcases (show k = 0 ∨ k = 1 ∨ k = 2 ∨ k = 3 ∨ k = 4 ∨ k = 5 ∨ k = 6 ∨ k = 7 ∨ k = 8 ∨ k = 9 ∨ k = 10 ∨ k = 11 ∨ k = 12 ∨ k = 13 ∨ k = 14 ∨ k = 15 ∨ k = 16 ∨ k = 17 ∨ k = 18 by omega) with rfl | rfl | rfl | rfl | rfl | rfl | rfl | rfl | rfl | rfl | rfl | rfl | rfl | rfl | rfl | rfl | rfl | rfl | rfl <;> (obtain rfl := Option.some.inj ho; simp)
      · intro k t W W' hb h
        match k, h with
        | 0, h => exact h
        | 1, h => exact h
        | 2, h => exact h
        | 3, h => exact h
        | 4, h => exact h
        | 5, h => exact h
        | 6, h => exact h
        | 7, h => exact h
        | 8, h => exact h
        | 9, h => exact h
        | 10, h => exact by obtain ⟨g, e1, e2⟩ := h; exact ⟨g, e1, row_below e2 hb⟩
        | 11, h => exact h
        | 12, h => exact h
        | 13, h => exact h
        | 14, h => exact by obtain ⟨a, c, e, o⟩ := h; exact ⟨a, c, e, strsAt_below o hb⟩
        | 15, h => exact by obtain ⟨a, c, e, o⟩ := h; exact ⟨a, c, e, strsAt_below o hb⟩
        | 16, h => exact h
        | _ + 17, h => exact h.elim
      · intro l hC kk hkk
        have l0 : l 0 = true := hC 17 _ rfl (fun h => by omega) (Nat.le_refl _) ⟨0, .data⟩ (by simp) (by simp [Region.binds])
        have l16 : l 16 = true := hC 17 _ rfl (fun h => by omega) (Nat.le_refl _) ⟨16, .data⟩ (by simp) (by simp [Region.binds])
        have l15 : l 15 = true := hC 16 _ rfl (fun _ => l16) (by decide) ⟨15, .data⟩ (by simp) (by simp [Region.binds])
        have l10 : l 10 = true := hC 15 _ rfl (fun _ => l15) (by decide) ⟨10, .data⟩ (by simp) (by simp [Region.binds])
        have l14 : l 14 = true := hC 15 _ rfl (fun _ => l15) (by decide) ⟨14, .data⟩ (by simp) (by simp [Region.binds])
        have l3 : l 3 = true := hC 10 _ rfl (fun _ => l10) (by decide) ⟨3, .data⟩ (by simp) (by simp [Region.binds])
        have l6 : l 6 = true := hC 10 _ rfl (fun _ => l10) (by decide) ⟨6, .data⟩ (by simp) (by simp [Region.binds])
        have l9 : l 9 = true := hC 10 _ rfl (fun _ => l10) (by decide) ⟨9, .data⟩ (by simp) (by simp [Region.binds])
        have l2 : l 2 = true := hC 3 _ rfl (fun _ => l3) (by decide) ⟨2, .data⟩ (by simp) (by simp [Region.binds])
        have l1 : l 1 = true := hC 2 _ rfl (fun _ => l2) (by decide) ⟨1, .data⟩ (by simp) (by simp [Region.binds])
        have l5 : l 5 = true := hC 6 _ rfl (fun _ => l6) (by decide) ⟨5, .data⟩ (by simp) (by simp [Region.binds])
        have l4 : l 4 = true := hC 5 _ rfl (fun _ => l5) (by decide) ⟨4, .data⟩ (by simp) (by simp [Region.binds])
        have l8 : l 8 = true := hC 9 _ rfl (fun _ => l9) (by decide) ⟨8, .data⟩ (by simp) (by simp [Region.binds])
        have l7 : l 7 = true := hC 8 _ rfl (fun _ => l8) (by decide) ⟨7, .data⟩ (by simp) (by simp [Region.binds])
        have l11 : l 11 = true := hC 14 _ rfl (fun _ => l14) (by decide) ⟨11, .data⟩ (by simp) (by simp [Region.binds])
        have l13 : l 13 = true := hC 14 _ rfl (fun _ => l14) (by decide) ⟨13, .data⟩ (by simp) (by simp [Region.binds])
        have l12 : l 12 = true := hC 13 _ rfl (fun _ => l13) (by decide) ⟨12, .data⟩ (by simp) (by simp [Region.binds])
        rcases (show kk = 0 ∨ kk = 1 ∨ kk = 2 ∨ kk = 3 ∨ kk = 4 ∨ kk = 5 ∨ kk = 6 ∨ kk = 7 ∨ kk = 8 ∨ kk = 9 ∨ kk = 10 ∨ kk = 11 ∨ kk = 12 ∨ kk = 13 ∨ kk = 14 ∨ kk = 15 ∨ kk = 16 by omega) with rfl | rfl | rfl | rfl | rfl | rfl | rfl | rfl | rfl | rfl | rfl | rfl | rfl | rfl | rfl | rfl | rfl
        · exact l0
        · exact l1
        · exact l2
        · exact l3
        · exact l4
        · exact l5
        · exact l6
        · exact l7
        · exact l8
        · exact l9
        · exact l10
        · exact l11
        · exact l12
        · exact l13
        · exact l14
        · exact l15
        · exact l16
      · intro j hj o ho
        rcases (show j = 0 by omega) with rfl
        · obtain rfl := Option.some.inj ho
          exact ⟨⟨17, .data⟩, by simp, rfl, by simp [Region.binds]⟩
      · intro k o u W hk ho hB hU hF
        have ev : ∀ s, DCs7 s = true → s < 56 → (ovr DCs7 A0 u).tmps[s]?.getD undef = u s := fun s h1 h2 => (getD_at _ _).symm.trans (eval_in h1 (by omega))
        have o3 : (ovr DCs7 A0 u).tmps[3]?.getD undef = _ := (getD_at _ _).symm.trans ((eval_out (D := DCs7) (a0 := A0) (u := u) (s := 3) rfl (by omega)).trans e3)
        have o6 : (ovr DCs7 A0 u).tmps[6]?.getD undef = _ := (getD_at _ _).symm.trans ((eval_out (D := DCs7) (a0 := A0) (u := u) (s := 6) rfl (by omega)).trans e6)
        have o4 : (ovr DCs7 A0 u).tmps[4]?.getD undef = _ := (ev 4 rfl (by decide)).trans ((hU 4 (by decide)).trans e4)
        obtain ⟨y0, y1, y2, y3, y4⟩ := ob_cells ((hB.block _ (lt_of_block HQ.out)).trans HQ.out)
        rcases (show k = 0 ∨ k = 1 ∨ k = 2 ∨ k = 3 ∨ k = 4 ∨ k = 5 ∨ k = 6 ∨ k = 7 ∨ k = 8 ∨ k = 9 ∨ k = 10 ∨ k = 11 ∨ k = 12 ∨ k = 13 ∨ k = 14 ∨ k = 15 ∨ k = 16 by omega) with rfl | rfl | rfl | rfl | rfl | rfl | rfl | rfl | rfl | rfl | rfl | rfl | rfl | rfl | rfl | rfl | rfl
        all_goals obtain rfl := Option.some.inj ho
        · refine plainV (v := .slice ba bn bc) rfl rfl ?_ rfl
          simp only [execOp]
          go_simp
          try go_num
          try (rw [IntKind.wrap_i64]; omega)
        · refine plainV (v := .pointer (some ⟨q, 1, none⟩)) rfl rfl ?_ rfl
          simp only [execOp]
          go_simp
          try go_num
          try (rw [IntKind.wrap_i64]; omega)
        · have x1 := (ev 37 rfl (by decide)).trans (hF 1 (by decide) (by simp [Region.binds]))
          refine plainV (v := .int .i64 mcl) rfl rfl ?_ rfl
          simp only [execOp]
          go_simp
          try go_num
          try (rw [IntKind.wrap_i64]; omega)
        · have x2 := (ev 38 rfl (by decide)).trans (hF 2 (by decide) (by simp [Region.binds]))
          refine plainC (f := 69) (args := #[.int .i64 mcl]) rfl rfl ?_ ((HLI.out mcl HI1.out W).mono ?_)
          · simp only [execOp]
            go_simp
          · rintro e w' ⟨rfl, hb⟩
            exact ⟨_, rfl, hb, rfl⟩
        · refine plainV (v := .pointer (some ⟨q, 2, none⟩)) rfl rfl ?_ rfl
          simp only [execOp]
          go_simp
          try go_num
          try (rw [IntKind.wrap_i64]; omega)
        · have x4 := (ev 40 rfl (by decide)).trans (hF 4 (by decide) (by simp [Region.binds]))
          refine plainV (v := .int .i64 mf) rfl rfl ?_ rfl
          simp only [execOp]
          go_simp
          try go_num
          try (rw [IntKind.wrap_i64]; omega)
        · have x5 := (ev 41 rfl (by decide)).trans (hF 5 (by decide) (by simp [Region.binds]))
          refine plainC (f := 69) (args := #[.int .i64 mf]) rfl rfl ?_ ((HLI.out mf HI2.out W).mono ?_)
          · simp only [execOp]
            go_simp
          · rintro e w' ⟨rfl, hb⟩
            exact ⟨_, rfl, hb, rfl⟩
        · refine plainV (v := .pointer (some ⟨q, 3, none⟩)) rfl rfl ?_ rfl
          simp only [execOp]
          go_simp
          try go_num
          try (rw [IntKind.wrap_i64]; omega)
        · have x7 := (ev 43 rfl (by decide)).trans (hF 7 (by decide) (by simp [Region.binds]))
          refine plainV (v := .int .i64 mh) rfl rfl ?_ rfl
          simp only [execOp]
          go_simp
          try go_num
          try (rw [IntKind.wrap_i64]; omega)
        · have x8 := (ev 44 rfl (by decide)).trans (hF 8 (by decide) (by simp [Region.binds]))
          refine plainC (f := 69) (args := #[.int .i64 mh]) rfl rfl ?_ ((HLI.out mh HI3.out W).mono ?_)
          · simp only [execOp]
            go_simp
          · rintro e w' ⟨rfl, hb⟩
            exact ⟨_, rfl, hb, rfl⟩
        · have x3 := (ev 39 rfl (by decide)).trans (hF 3 (by decide) (by simp [Region.binds]))
          have x6 := (ev 42 rfl (by decide)).trans (hF 6 (by decide) (by simp [Region.binds]))
          have x9 := (ev 45 rfl (by decide)).trans (hF 9 (by decide) (by simp [Region.binds]))
          refine plainB (v := .slice (some ⟨W.heap.size, 0, none⟩) 3 3) (W' := W.alloc (.cells #[.string (bs (Lib.itoa mcl)), .string (bs (Lib.itoa mf)), .string (bs (Lib.itoa mh))] 9)) rfl rfl ?_ ((Below.refl _ _).alloc (Nat.le_refl _) _) ⟨W.heap.size, rfl, rfl, .inr ⟨W.heap.size, 3, _, rfl, hB.size, heap_alloc_new _ _, Nat.le_refl _, by decide, rfl, rfl⟩⟩
          simp only [execOp]
          go_simp
        · refine plainV (v := .slice (some ⟨ib, io, none⟩) no oc) rfl rfl ?_ rfl
          simp only [execOp]
          go_simp
          try go_num
          try (rw [IntKind.wrap_i64]; omega)
        · refine plainV (v := .pointer (some ⟨q, 4, none⟩)) rfl rfl ?_ rfl
          simp only [execOp]
          go_simp
          try go_num
          try (rw [IntKind.wrap_i64]; omega)
        · have x12 := (ev 48 rfl (by decide)).trans (hF 12 (by decide) (by simp [Region.binds]))
          refine plainV (v := .slice sa sn sc) rfl rfl ?_ rfl
          simp only [execOp]
          go_simp
          try go_num
          try (rw [IntKind.wrap_i64]; omega)
        · have x11 := (ev 47 rfl (by decide)).trans (hF 11 (by decide) (by simp [Region.binds]))
          have x13 := (ev 49 rfl (by decide)).trans (hF 13 (by decide) (by simp [Region.binds]))
          refine plainC (f := 67) (args := #[.slice (some ⟨ib, io, none⟩) no oc, .slice sa sn sc]) rfl rfl ?_ ((HW5.out W hB).mono ?_)
          · simp only [execOp]
            go_simp
          · rintro e w' ⟨u, rfl, ho, hb⟩
            obtain ⟨a, c, eu⟩ := strsT_slice (ownT_strs ho)
            subst eu
            exact ⟨_, rfl, hb, a, c, rfl, ownT_strs ho⟩
        · have h10 := hF 10 (by decide) (by simp [Region.binds])
          have h14 := hF 14 (by decide) (by simp [Region.binds])
          obtain ⟨g, f46, o46⟩ := h10
          obtain ⟨b, d, f50, s50⟩ := h14
          obtain ⟨ra, rc, w', hr, o', b'⟩ := run_appF o46 s50 (by simp only [List.length_cons, List.length_nil]; omega) 63
          exact plainA (s := .tmp 46) (x := .tmp 50) rfl rfl rfl ((eval_in rfl (by omega)).trans f46) ((eval_in rfl (by omega)).trans f50) hr b' ⟨ra, rc, rfl, o'⟩
        · have h15 := hF 15 (by decide) (by simp [Region.binds])
          obtain ⟨a, c, f51, s51⟩ := h15
          have x51 := (ev 51 rfl (by decide)).trans f51
          refine plainC (f := 66) (args := #[.slice a ([Lib.itoa mcl, Lib.itoa mf, Lib.itoa mh] ++ ws2).length c]) rfl rfl ?_ ((HLN.out W a _ c s51).mono ?_)
          · simp only [execOp]
            go_simp
          · rintro e w' ⟨rfl, hw⟩
            rw [hw]
            exact ⟨_, rfl, Below.refl _ _, rfl⟩
      · intro j o u W hj ho hM
        have ev : ∀ s, DCs7 s = true → s < 56 → (ovr DCs7 A0 u).tmps[s]?.getD undef = u s := fun s h1 h2 => (getD_at _ _).symm.trans (eval_in h1 (by omega))
        have o3 : (ovr DCs7 A0 u).tmps[3]?.getD undef = _ := (getD_at _ _).symm.trans ((eval_out (D := DCs7) (a0 := A0) (u := u) (s := 3) rfl (by omega)).trans e3)
        have o6 : (ovr DCs7 A0 u).tmps[6]?.getD undef = _ := (getD_at _ _).symm.trans ((eval_out (D := DCs7) (a0 := A0) (u := u) (s := 6) rfl (by omega)).trans e6)
        rcases (show j = 0 ∨ j = 1 by omega) with rfl | rfl
        all_goals obtain rfl := Option.some.inj ho
        · obtain ⟨hB, f36, f52⟩ := hM
          have BX1 := HBY.out.trans (hB.mono HBY.out.size)
          obtain ⟨v, w', hr, hby, hbw⟩ := byC_app (byC_below HByY.out hB) T' HCK.out BX1.size 22
          obtain ⟨g, cap, ev', hrest⟩ := id hby
          subst ev'
          refine tailA (s := .tmp 36) (x := .tmp 52) rfl rfl rfl ((eval_in rfl (by omega)).trans f36) ((eval_in rfl (by omega)).trans f52) hr ⟨BX1.trans hbw, _, _, _, rfl, hby⟩
        · obtain ⟨hB, a, n, c, f53, hby⟩ := hM
          have x53 := (ev 53 rfl (by decide)).trans f53
          refine tailV (v := .slice a n c) (W' := W) rfl rfl ?_ ⟨hB, a, n, c, rfl, hby⟩
          simp only [execOp]
          go_simp
      · intro u W hM
        obtain ⟨hB, va, vn, vc, f4, hby⟩ := hM
        rw [← HNX.out] at hby
        have HBV : Hid _ := hby
        have HBW : Hid _ := hB
        clear hB hby
        subst hA0
        simp [ovr, DCs7, List.range, List.range.loop, f4]
        go_wp2
        exact ⟨⟨k + 1, _, _, _, by go_num, by omega, rfl, HBV, HBW⟩, by simp [intOf]; omega⟩
    · have hk2 : ¬ (k : Int) < (no : Int) := by omega
      have e : k = no := by omega
      have HF : Hid (ByC wr X.heap.size (.slice ba bn bc) (canT G)) := by
        show ByC _ _ _ _
        rw [← canK_end, HNO.out, ← e]
        exact HBy
      have CV := conv_back HF.out
      rw [HR.out] at CV
      clear e HF hk
      go_wp2
      go_ret
      exact ⟨rfl, HBX.out.trans (HB.out.mono HBX.out.size)⟩
set_option maxHeartbeats 8000000 in
theorem sCanon_any {w : World} {o r m : Value} {ms : List MO} {G : Gr} (h : GraphAt w o r m ms G) (hs : gSize ms G ≤ 1048576) :
    Calls Tryz.prog 14 #[gv o r m G.next G.seed] w fun e w' => e = .returned (.string (canA G)) ∧ Below w.heap.size w w' := by
  obtain ⟨a1, n1, c1, a2, n2, c2, a3, n3, c3, e1, e2, e3⟩ := graphAt_slices h
  subst e1 e2 e3
  have BP : Below w.heap.size w (w.alloc (gb (.slice a1 n1 c1) (.slice a2 n2 c2) (.slice a3 n3 c3) G.next G.seed)) := (Below.refl _ _).alloc (Nat.le_refl _) _
  have T0 : Five (w.alloc (gb (.slice a1 n1 c1) (.slice a2 n2 c2) (.slice a3 n3 c3) G.next G.seed)) w.heap.size 27 (.slice a1 n1 c1) (.slice a2 n2 c2) (.slice a3 n3 c3) (.int .i64 G.next) (.int .i64 G.seed) := heap_alloc_new w _
  have GK := sGraphOk_any (graphAt_below h BP) hs
  obtain ⟨z0, z1, z2, z3, z4, _⟩ := five_cells T0
  obtain ⟨R, hR⟩ : ∃ R, canA G = R := ⟨_, rfl⟩
  rw [hR]
  have HR : Hid _ := hR
  have HT0 : Hid _ := T0
  have HBP : Hid _ := BP
  have HH : Hid _ := h
  clear BP h hR T0 hs
  cases dr : gOk G
  · rw [dr] at GK
    have HE : Hid (R = ⟨#[]⟩) := by show _ = _; rw [← HR.out]; unfold canA; rw [if_neg (by rw [dr]; decide)]
    clear dr
    go_enter Tryz.func14, Tryz.ntmps14
    go_wp2_with (go_at_call 18; refine GK.mono ?_; clear GK; rintro e w2 ⟨rfl, b2⟩; have HBE : Hid _ := HBP.out.trans (b2.mono HBP.out.size); clear b2)
    go_ret
    exact ⟨by rw [HE.out]; rfl, HBE.out⟩
  · rw [dr] at GK
    have hok := right_of dr
    have HE : Hid (R = bs (canT G)) := by show _ = _; rw [← HR.out]; unfold canA; rw [if_pos dr]
    have HOK : Hid _ := hok
    clear dr hok
    go_enter Tryz.func14, Tryz.ntmps14
    go_upto_region 3 with (go_at_call 18; refine GK.mono ?_; clear GK z0 z1 z2 z3 z4; rintro e w2 ⟨rfl, b2⟩; have HB2 : Hid _ := HBP.out.trans (b2.mono HBP.out.size); have HT2 : Hid _ := five_below HT0.out b2; clear b2 HBP HT0)
    obtain ⟨z0, z1, z2, z3, z4, _⟩ := five_cells HT2.out
    have LC := l6Canon_any (graphAt_below HH.out HB2.out) HOK.out
    rw [← HE.out] at LC
    go_wp2_with (go_at_call 43; refine LC.mono ?_; clear LC; rintro e w3 ⟨rfl, b3⟩)
    go_ret
    exact ⟨rfl, HB2.out.trans (b3.mono HB2.out.size)⟩
end Go.Proofs.YtcboojhabolcbaaGreatDoor.gr
