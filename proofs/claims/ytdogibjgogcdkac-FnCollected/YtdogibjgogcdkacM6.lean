/-
  Chapter 6 as the program has it: GraphOk. Chapter 6 as the program has it: a change made in a copy. Chapter 6 as the program has it: the place to which a ref leads. Chapter 6 as the program has it: the object to which a root leads, and GHash. Chapter 6: a root copied onto another, in the graph that a pointer leads to; by the specification and by the program. Chapter 6 as the program has it: a slot of the object to which a root leads.
-/
import Derived.Test.YtdogibjgogcdkacM5
import Derived.Test.YtdogibjgogcdkacM4
import Derived.Shelf.Abstract
import Derived.Lib.Hide
import Derived.Deep.RegionLaw
namespace Go.Proofs.Ytdogibjgogcdkac.gr
open Go.RowKit rows heads
set_option maxRecDepth 100000

set_option maxHeartbeats 4000000 in
theorem implGraphOk {w : World} {o r m : Value} {ms : List MO} {G : Gr} (h : GraphAt w o r m ms G) (hs : gSize ms G ≤ 1048576) :
    Calls Try.prog 13 #[gv o r m G.next G.seed] w fun e w' => e = .returned (.bool (gOk G)) ∧ Below w.heap.size w w' := by
  rw [← pG_gOk]
  have hsz : ms.length ≤ 1048576 := by unfold gSize at hs; omega
  have hss := gSize_slots hs
  have h0 := h
  obtain ⟨ea, hO, hR, hM⟩ := h
  have hsl := objs_slices hO
  have hlen : ms.length = G.objs.length := by rw [← ea]; simp
  have HID : Hid (∀ W, Below w.heap.size w W → ∀ nx, _) := fun W hW nx => idsOk_any (orowAt_below hO.1 hW) hsl ea hsz nx
  have HOB : Hid (Rise G.objs → ∀ W, Below w.heap.size w W → _) := fun hr W hW => objsOk_any (objsAt_below hO hW) ea hr hsz hss
  have HRO : Hid (Rise G.objs → ∀ W, Below w.heap.size w W → _) := fun hr W hW => rootsOk_any (graphAt_below h0 hW) hs hr
  have HRI : Hid (∀ nx, idsB G.objs nx = true → Rise G.objs) := fun nx e => rise_of e
  have hol : ∃ a c, o = .slice a G.objs.length c := by obtain ⟨⟨a, c, e, _⟩, _⟩ := hO; rw [hlen] at e; exact ⟨a, c, e⟩
  obtain ⟨a2, n2, c2, e2⟩ := refs_slice hR
  obtain ⟨a3, n3, c3, e3⟩ := refs_slice hM
  obtain ⟨a1, c1, rfl⟩ := hol
  subst e2 e3
  have B : Below w.heap.size w (w.alloc (gb (.slice a1 G.objs.length c1) (.slice a2 n2 c2) (.slice a3 n3 c3) G.next G.seed)) := (Below.refl _ w).alloc (Nat.le_refl _) _
  have T := five_new w 27 (.slice a1 G.objs.length c1) (.slice a2 n2 c2) (.slice a3 n3 c3) (.int .i64 G.next) (.int .i64 G.seed)
  obtain ⟨RV, hRV⟩ : ∃ RV, pG G = RV := ⟨_, rfl⟩
  rw [hRV]
  have HRV : Hid _ := hRV
  have HB : Hid _ := B
  have HT : Hid _ := T
  clear hRV B T hO hR hM hsl ea hlen h0 hss hsz hs
  unfold pG at HRV
  generalize hgn : G.next = gn at *
  generalize hgs : G.seed = gs at *
  have hl63 : c1 ≤ 9223372036854775807 ∨ True := .inr trivial
  clear hgn hgs hl63
  generalize hol : G.objs.length = lo at *
  clear hol
  go_enter Try.func13, Try.ntmps13
  by_cases e1 : gn < 1
  · have ER : Hid (RV = false) := by show _ = _; rw [← HRV.out]; simp [inR]; omega
    clear HRV HID HOB HRO HRI HT
    go_wp2
    go_ret
    exact ⟨by rw [ER.out]; rfl, HB⟩
  by_cases e2 : gn > 100000
  · have ER : Hid (RV = false) := by show _ = _; rw [← HRV.out]; simp [inR]; omega
    clear HRV HID HOB HRO HRI HT
    go_wp2
    go_ret
    exact ⟨by rw [ER.out]; rfl, HB⟩
  have i1 : inR 1 100000 gn = true := by simp [inR]; omega
  rw [i1] at HRV
  have HI := hashInRange_any gs
  cases e3 : inR 0 65535 gs
  · have ER : Hid (RV = false) := by show _ = _; rw [← HRV.out, e3]; rfl
    rw [e3] at HI
    clear HRV HID HOB HRO HRI HT
    go_wp2_with (go_at_call 40; refine (HI _).mono ?_; rintro e w1 ⟨rfl, rfl⟩)
    go_ret
    exact ⟨by rw [ER.out]; rfl, HB⟩
  rw [e3] at HI HRV
  by_cases e4 : lo ≤ 200
  · have n4 : ¬ (lo : Int) > 200 := by omega
    have eRV : Hid (RV = (idsB G.objs gn && (objsB G.objs && rootsB G))) := by show _ = _; rw [← HRV.out]; simp [e4]
    clear HRV
    go_wp2_with (go_at_call 40; refine (HI _).mono ?_; rintro e w1 ⟨rfl, rfl⟩)
    have ID := HID.out _ HB.out gn
    have T0 := HT.out
    clear HI
    generalize (w.alloc (gb (.slice a1 lo c1) (.slice a2 n2 c2) (.slice a3 n3 c3) gn gs)) = X at *
    refine ID.mono ?_
    rintro e w1 ⟨rfl, b1⟩
    have T1 := five_below T0 b1
    have B1 := HB.out.trans (b1.mono HB.out.size)
    obtain ⟨z0, z1, z2, z3, z4, _⟩ := five_cells T1
    have sz1 := B1.size
    have HB1 : Hid _ := B1
    have HT1 : Hid _ := T1
    clear ID HID HT HB T0 T1 b1 B1
    cases d1 : idsB G.objs gn
    · have ER : Hid (RV = false) := by show _ = _; rw [eRV.out, d1]; rfl
      clear eRV HOB HRO HRI HT1
      go_wp2
      go_ret
      exact ⟨by rw [ER.out]; rfl, HB1⟩
    · have hr := HRI.out gn d1
      have OB := HOB.out hr _ HB1.out
      go_wp2_with fail
      refine OB.mono ?_
      rintro e w2 ⟨rfl, b2⟩
      have T2 := five_below HT1.out b2
      have B2 := HB1.out.trans (b2.mono sz1)
      have RO := HRO.out hr _ B2
      clear z0 z1 z2 z3 z4
      obtain ⟨z0, z1, z2, z3, z4, _⟩ := five_cells T2
      have HB2 : Hid _ := B2
      have sz2 := B2.size
      clear OB HOB HRO HT1 T2 b2 B2 HB1 hr HRI
      cases d2 : objsB G.objs
      · have ER : Hid (RV = false) := by show _ = _; rw [eRV.out, d1, d2]; rfl
        clear eRV RO
        go_wp2
        go_ret
        exact ⟨by rw [ER.out]; rfl, HB2⟩
      · have ER : Hid (RV = rootsB G) := by show _ = _; rw [eRV.out, d1, d2]; rfl
        clear eRV
        generalize rootsB G = bm at *
        go_wp2_with fail
        refine RO.mono ?_
        rintro e w3 ⟨rfl, b3⟩
        have HB3 : Hid _ := HB2.out.trans (b3.mono sz2)
        clear RO HB2 b3
        go_wp2
        go_ret
        exact ⟨by rw [ER.out]; rfl, HB3⟩
  · have n4 : (lo : Int) > 200 := by omega
    have ER : Hid (RV = false) := by show _ = _; rw [← HRV.out]; simp [e4]
    clear HRV HID HOB HRO HRI HT
    go_wp2_with (go_at_call 40; refine (HI _).mono ?_; rintro e w1 ⟨rfl, rfl⟩)
    go_ret
    exact ⟨by rw [ER.out]; rfl, HB⟩
end Go.Proofs.Ytdogibjgogcdkac.gr
namespace Go.Proofs.Ytdogibjgogcdkac.gr
open Go.RowKit rows heads
set_option maxRecDepth 100000

theorem heap_push {w : World} {o x : Obj} {k : Nat} (h : w.heap[k]? = some x) : (w.alloc o).heap[k]? = some x := (Below.heap_alloc w o k (Array.getElem?_eq_some_iff.1 h).1).trans h
theorem res_gr2 {fn : Func} {tmps : Array Value} {X : World} {j i b : Nat} {a1 a2 a3 : Option Addr} {n1 c1 n2 c2 n3 c3 : Nat} {x y : Int} {bb : Bool} (hf : fn.results = #[.cell j 27, .tmp i]) (h2 : tmps[j]? = some (.pointer (some ⟨b, 0, none⟩))) (hi : tmps[i]? = some (.bool bb)) (hX : Five X b 27 (.slice a1 n1 c1) (.slice a2 n2 c2) (.slice a3 n3 c3) (.int .i64 x) (.int .i64 y)) :
    (results fn tmps).run Try.prog X = .ok (.tuple #[gv (.slice a1 n1 c1) (.slice a2 n2 c2) (.slice a3 n3 c3) x y, .bool bb]) X := by
  obtain ⟨k0, k1, k2, k3, k4, _⟩ := five_cells hX
  clear hX
  simp [results, hf, h2, hi, go_sem, k0, k1, k2, k3, k4]

set_option maxHeartbeats 8000000 in
theorem edited_any {w : World} {o r m : Value} {ms : List MO} {G : Gr} (h : GraphAt w o r m ms G) (hs : gSize ms G ≤ 1048576) (F : Nat) (cap : Array Value) (eg : ∀ args w, (callFunc F args).run Try.prog w = .ok (.enter F args) w) {R : Gr} {b : Bool}
    (HC : Hid (gOk G = true → ∀ (base P : Nat) (W : World), w.heap.size ≤ base → Below w.heap.size w W → Held W base P G → Calls Try.prog F (#[.pointer (some ⟨P, 0, none⟩)] ++ cap) W fun e w' => e = .returned (.bool b) ∧ Held w' base P R ∧ Below base W w')) :
    Calls Try.prog 26 #[gv o r m G.next G.seed, .func (.func F) #[] cap] w fun e w' => ∃ o' r' m' rs, e = .returned (.tuple #[gv o' r' m' (if gOk G = true then R else gr0).next (if gOk G = true then R else gr0).seed, .bool (gOk G && b)]) ∧ OwnG w' w.heap.size o' r' m' rs (if gOk G = true then R else gr0) ∧ Below w.heap.size w w' := by
  obtain ⟨a1, n1, c1, a2, n2, c2, a3, n3, c3, e1, e2, e3⟩ := graphAt_slices h
  subst e1 e2 e3
  generalize hn0 : w.heap.size = n0 at *
  have B0 : Below n0 w ((w.alloc (gb (.slice a1 n1 c1) (.slice a2 n2 c2) (.slice a3 n3 c3) G.next G.seed)).alloc (gb (.slice none 0 0) (.slice none 0 0) (.slice none 0 0) 0 0)) := ((Below.refl _ w).alloc (by omega) _).alloc (by simp; omega) _
  have TP : Five ((w.alloc (gb (.slice a1 n1 c1) (.slice a2 n2 c2) (.slice a3 n3 c3) G.next G.seed)).alloc (gb (.slice none 0 0) (.slice none 0 0) (.slice none 0 0) 0 0)) n0 27 (.slice a1 n1 c1) (.slice a2 n2 c2) (.slice a3 n3 c3) (.int .i64 G.next) (.int .i64 G.seed) := by
    rw [← hn0]
    exact five_below (five_new w _ _ _ _ _ _) ((Below.refl _ _).alloc (Nat.le_refl _) _)
  have TR : Five ((w.alloc (gb (.slice a1 n1 c1) (.slice a2 n2 c2) (.slice a3 n3 c3) G.next G.seed)).alloc (gb (.slice none 0 0) (.slice none 0 0) (.slice none 0 0) 0 0)) (n0 + 1) 27 (.slice none 0 0) (.slice none 0 0) (.slice none 0 0) (.int .i64 0) (.int .i64 0) := by
    have := five_new (w.alloc (gb (.slice a1 n1 c1) (.slice a2 n2 c2) (.slice a3 n3 c3) G.next G.seed)) 27 (.slice none 0 0) (.slice none 0 0) (.slice none 0 0) (.int .i64 0) (.int .i64 0)
    rw [← hn0]
    simpa using this
  have hX : n0 + 2 ≤ ((w.alloc (gb (.slice a1 n1 c1) (.slice a2 n2 c2) (.slice a3 n3 c3) G.next G.seed)).alloc (gb (.slice none 0 0) (.slice none 0 0) (.slice none 0 0) 0 0)).heap.size := by simp; omega
  have HG : Hid (∀ {X : World}, Below n0 w X → GraphAt X (.slice a1 n1 c1) (.slice a2 n2 c2) (.slice a3 n3 c3) ms G) := fun {X} hb => graphAt_below h (by rw [hn0]; exact hb)
  have GO := implGraphOk (HG.out B0) hs
  obtain ⟨RG, hRG⟩ : ∃ RG, (if gOk G = true then R else gr0) = RG := ⟨_, rfl⟩
  obtain ⟨RB, hRB⟩ : ∃ RB, (gOk G && b) = RB := ⟨_, rfl⟩
  rw [hRG, hRB]
  have HRG : Hid _ := hRG
  have HRB : Hid _ := hRB
  clear hRG hRB h
  go_enter Try.func26, Try.ntmps26
  go_wp2_with fail
  generalize ((w.alloc (gb (.slice a1 n1 c1) (.slice a2 n2 c2) (.slice a3 n3 c3) G.next G.seed)).alloc (gb (.slice none 0 0) (.slice none 0 0) (.slice none 0 0) 0 0)) = X at *
  refine GO.mono ?_
  rintro e w1 ⟨rfl, b1⟩
  have B1 := B0.trans (b1.mono (by omega))
  have TP1 := five_below TP b1
  have TR1 := five_below TR b1
  have s1 : n0 + 2 ≤ w1.heap.size := Nat.le_trans hX b1.size
  clear GO TP TR B0 b1 hX
  obtain ⟨v0, v1, v2, v3, v4, vf⟩ := five_cells TR1
  have g0 := vf 0
  have g1 := vf 1
  have g2 := vf 2
  have g3 := vf 3
  have g4 := vf 4
  cases ok : gOk G
  · have ERG : RG = gr0 := by rw [← HRG.out, ok]; rfl
    have ERB : Hid (RB = false) := by show _ = _; rw [← HRB.out, ok]; rfl
    subst ERG
    have HTX : Hid _ := five_sets TR1 (.slice none 0 0) (.slice none 0 0) (.slice none 0 0) (.int .i64 0) (.int .i64 0)
    have HBX : Hid _ := five_belows B1 (show n0 ≤ n0 + 1 by omega) (.slice none 0 0) (.slice none 0 0) (.slice none 0 0) (.int .i64 0) (.int .i64 0)
    clear HRG HRB HC HG TP1 TR1 B1 vf
    go_wp2
    exact bodyPost_ret (res_gr2 rfl rfl rfl HTX.out) rfl ⟨_, _, _, [], by rw [ERB.out]; rfl, ownG_zero _ _, HBX.out⟩
  · have ERG : Hid (RG = R) := by show _ = _; rw [← HRG.out, ok]; rfl
    have ERB : Hid (RB = b) := by show _ = _; rw [← HRB.out, ok]; rfl
    have CG := copiedGraph_any (HG.out B1) hs
    obtain ⟨z0, z1, z2, z3, z4, _⟩ := five_cells TP1
    have HC1 : Hid _ := HC.out ok
    have HTR1 : Hid _ := TR1
    have HB1 : Hid _ := B1
    clear HRG HRB HC HG TP1 TR1 B1 vf
    go_wp2_with fail
    refine CG.mono ?_
    rintro e w2 ⟨o', r', m', ns, rfl, OG, b2⟩
    obtain ⟨a1', n1', c1', a2', n2', c2', a3', n3', c3', e1, e2, e3⟩ := graphAt_slices (ownG_at OG)
    subst e1 e2 e3
    clear CG z0 z1 z2 z3 z4 v0 v1 v2 v3 v4 g0 g1 g2 g3 g4
    have s2 := b2.size
    have BA : Below w2.heap.size w2 (w2.alloc (gb (.slice a1' n1' c1') (.slice a2' n2' c2') (.slice a3' n3' c3') G.next G.seed)) := (Below.refl _ w2).alloc (Nat.le_refl _) _
    have HH : Held (w2.alloc (gb (.slice a1' n1' c1') (.slice a2' n2' c2') (.slice a3' n3' c3') G.next G.seed)) w1.heap.size w2.heap.size G :=
      ⟨_, _, _, ns, five_new w2 _ _ _ _ _ _, ownG_below OG BA, fun e => by have := (ownG_lt OG _ e).2; omega, s2⟩
    have B2 := (HB1.out.trans (b2.mono (by omega))).trans (BA.mono (by omega))
    have CL := HC1.out w1.heap.size w2.heap.size _ (by omega) B2 HH
    have HTR2 : Hid _ := five_below (five_below HTR1.out b2) BA
    have HB2 : Hid _ := B2
    have s3 : w1.heap.size ≤ (w2.alloc (gb (.slice a1' n1' c1') (.slice a2' n2' c2') (.slice a3' n3' c3') G.next G.seed)).heap.size := by simp; omega
    clear OG b2 BA HH B2 HC1 HTR1 HB1
    go_wp2_with (go_at_fn F; refine CL.mono ?_; rintro e w4 ⟨rfl, ⟨o4, r4, m4, rs, T4, O4, N4, _⟩, b4⟩; have HT4 : Hid _ := T4; have HO4 : Hid _ := O4; have HB4 : Hid _ := b4; clear T4 O4 b4 N4 CL; refine Hid.out ?_)
    have O4 := HO4.out
    have T4 := HT4.out
    have B4 := HB2.out.trans (HB4.out.mono (by omega))
    have TR4 : Five w4 (n0 + 1) 27 (.slice none 0 0) (.slice none 0 0) (.slice none 0 0) (.int .i64 0) (.int .i64 0) := (HB4.out.block (n0 + 1) (by omega)).trans HTR2.out
    obtain ⟨a1, n1, c1, a2, n2, c2, a3, n3, c3, e1, e2, e3⟩ := graphAt_slices (ownG_at O4)
    subst e1 e2 e3
    obtain ⟨z0, z1, z2, z3, z4, _⟩ := five_cells T4
    obtain ⟨v0, v1, v2, v3, v4, vf⟩ := five_cells TR4
    have g0 := vf 0
    have g1 := vf 1
    have g2 := vf 2
    have g3 := vf 3
    have g4 := vf 4
    have HOW : Hid _ := ownG_base (ownG_ch O4 (five_other (X := w4) (b := n0 + 1) (.slice a1 n1 c1) (.slice a2 n2 c2) (.slice a3 n3 c3) (.int .i64 R.next) (.int .i64 R.seed)) (fun x hx e => by have := (ownG_lt O4 x hx).1; rw [List.mem_singleton] at e; omega)) (show n0 ≤ w1.heap.size by omega)
    have HTX : Hid _ := five_sets TR4 (.slice a1 n1 c1) (.slice a2 n2 c2) (.slice a3 n3 c3) (.int .i64 R.next) (.int .i64 R.seed)
    have HBX : Hid _ := five_belows B4 (show n0 ≤ n0 + 1 by omega) (.slice a1 n1 c1) (.slice a2 n2 c2) (.slice a3 n3 c3) (.int .i64 R.next) (.int .i64 R.seed)
    clear vf O4 T4 B4 TR4 HO4 HT4 HB4 HB2 HTR2
    refine Go.Lib.hid ?_
    go_wp2
    exact bodyPost_ret (res_gr2 rfl rfl rfl HTX.out) rfl ⟨_, _, _, rs, by rw [ERB.out, ERG.out], by rw [ERG.out]; exact HOW.out, HBX.out⟩
end Go.Proofs.Ytdogibjgogcdkac.gr
namespace Go.Proofs.Ytdogibjgogcdkac.gr
open Go.RowKit rows heads
set_option maxRecDepth 100000
set_option linter.unusedVariables false

/-- Does a ref lead to an object that is there? -/
def ledB (os : List Ob) (r : Rf) : Bool := r.1 == 2 && decide (0 ≤ atI os r.2)
/-- The place to which it leads. -/
def ledP (os : List Ob) (r : Rf) : Nat := (atI os r.2).toNat
theorem ledP_lt {os : List Ob} {r : Rf} (h : ledB os r = true) : ledP os r < os.length := by
  simp only [ledB, Bool.and_eq_true, decide_eq_true_eq] at h
  unfold ledP
  rcases atI_le os r.2 with e | e <;> omega
set_option maxHeartbeats 2000000 in
theorem ledTo_any {w : World} {v : Value} {ms : List MO} {os : List Ob} (h : OrowAt w v ms) (hsl : Slices ms) (ea : ms.map MO.abs = os) (hr : Rise os) (hl : ms.length ≤ 1048576) (r : Rf) :
    Calls Try.prog 64 #[v, rv r] w fun e w' => ∃ k : Nat, e = .returned (.tuple #[.int .i64 k, .bool (ledB os r)]) ∧ (ledB os r = true → k = ledP os r) ∧ Below w.heap.size w w' := by
  have HP : Hid (∀ W, Below w.heap.size w W → ∀ id, _) := fun W hW id => placeOf_any (orowAt_below h hW) hsl (riseM ea hr) hl id
  have hlen : ms.length = os.length := by rw [← ea]; simp
  have HI : Hid (∀ id i, EndsM ms id i → (decide (i < ms.length) && decide ((ms.getD i moD).id = id)) = decide (0 ≤ atI os id) ∧ (0 ≤ atI os id → i = (atI os id).toNat)) := fun id i hE => by
    have := ends_is hr (endsM ea hE)
    refine ⟨by rw [← this, ← hlen, ← ea, abs_getD]; rfl, fun hp => ?_⟩
    have := (ends_place hr (endsM ea hE) hp).1
    omega
  obtain ⟨a, cap, rfl, hlc, hcm, _, hc⟩ := h
  clear hc hlen
  obtain ⟨k, n⟩ := r
  have B : Below w.heap.size w (w.alloc (rb (k, n))) := (Below.refl _ w).alloc (Nat.le_refl _) _
  have L := leadsTo_any (k, n) (w.alloc (rb (k, n)))
  have HB : Hid _ := B
  have szB := B.size
  clear B
  simp only at L
  by_cases h2 : k = 2
  · subst h2
    simp only [if_true] at L
    have e22 : ((2 : Int) == 2) = true := rfl
    rw [e22] at L
    obtain ⟨bb, hbb⟩ : ∃ bb, ledB os (2, n) = bb := ⟨_, rfl⟩
    obtain ⟨pp, hpp⟩ : ∃ pp, ledP os (2, n) = pp := ⟨_, rfl⟩
    have HL : Hid (decide (0 ≤ atI os n) = bb) := by show _ = _; rw [← hbb]; simp [ledB]
    have HLP : Hid ((atI os n).toNat = pp) := hpp
    rw [hbb, hpp]
    clear e22 hbb hpp
    go_enter Try.func64, Try.ntmps64
    go_wp2_with fail
    refine L.mono ?_
    rintro e w1 ⟨rfl, b1⟩
    have B1 := HB.out.trans (b1.mono szB)
    have PO := HP.out w1 B1 n
    have sz1 := B1.size
    have HB1 : Hid _ := B1
    clear L HP b1 HB B1
    go_wp2_with fail
    refine PO.mono ?_
    rintro e w2 ⟨i, hE, rfl, b2⟩
    obtain ⟨hI, hJ⟩ := HI.out n i hE
    have HQ : Hid (bb = true → i = pp) := fun e => by rw [← HLP.out]; exact hJ (by rw [← HL.out] at e; simpa using e)
    have hI' := hI.trans HL.out
    rw [hI']
    have HB2 : Hid _ := HB1.out.trans (b2.mono sz1)
    clear PO HI hI hI' hJ hE b2 HL HLP
    go_wp2
    exact bodyPost_ret (v := .tuple #[.int .i64 i, .bool bb]) (by simp [results, Try.results64, go_sem]) rfl ⟨i, rfl, HQ.out, HB2⟩
  · have e2 : (k == 2) = false := by simpa using h2
    have HL : Hid (ledB os (k, n) = false) := by show _ = _; simp [ledB, e2]
    rw [if_neg h2, e2] at L
    clear HP HI e2
    go_enter Try.func64, Try.ntmps64
    go_wp2_with (go_at_call 104; refine L.mono ?_; rintro e w1 ⟨rfl, b1⟩; have HB1 : Hid _ := HB.out.trans (b1.mono szB); clear b1 L HB)
    refine bodyPost_ret (v := .tuple #[.int .i64 0, .bool false]) (by simp [results, Try.results64, go_sem]) rfl ⟨0, by rw [HL.out]; rfl, fun e => ?_, HB1⟩
    rw [HL.out] at e
    cases e
end Go.Proofs.Ytdogibjgogcdkac.gr
namespace Go.Proofs.Ytdogibjgogcdkac.gr
open Go.RowKit rows heads
set_option maxRecDepth 100000

/-- Does this root lead to an object? -/
def leads (G : Gr) (x : Int) : Bool := inR 0 5 x && (rootAt G x).1 == 2
theorem leads_plc {G : Gr} (hok : gOk G = true) {x : Int} (h : leads G x = true) : atI G.objs (rootAt G x).2 = (plc G x : Int) ∧ plc G x < G.objs.length := by
  simp only [leads, Bool.and_eq_true, beq_iff_eq] at h
  have h1 : 0 ≤ x ∧ x ≤ 5 := by simpa [inR] using h.1
  have := refOk_two ((gOk_parts hok).2 x.toNat (by omega)) h.2
  unfold plc rootAt
  omega

theorem leads_led {G : Gr} (hok : gOk G = true) {x : Int} (hx : inR 0 5 x = true) : ledB G.objs (rootAt G x) = leads G x := by
  have h1 : 0 ≤ x ∧ x ≤ 5 := by simpa [inR] using hx
  have hr := (gOk_parts hok).2 x.toNat (by omega)
  unfold ledB leads
  rw [hx, Bool.true_and]
  by_cases h2 : (rootAt G x).1 = 2
  · have := (refOk_two hr h2).1
    rw [decide_eq_true this, Bool.and_true]
  · have : ((rootAt G x).1 == 2) = false := by simpa using h2
    rw [this, Bool.false_and]
end Go.Proofs.Ytdogibjgogcdkac.gr
namespace Go.Proofs.Ytdogibjgogcdkac.gr
open Go.RowKit rows heads
set_option maxRecDepth 100000

theorem q_in_root {o m : Value} {q n c : Nat} {ms : List MO} : q ∈ gblk o (.slice (some ⟨q, 0, none⟩) n c) m ms := by simp [gblk, blk_some]
theorem held_setRoot {w : World} {base P : Nat} {o m : Value} {q n c : Nat} {ms : List MO} {G : Gr} (T : Five w P 27 o (.slice (some ⟨q, 0, none⟩) n c) m (.int .i64 G.next) (.int .i64 G.seed)) (O : OwnG w base o (.slice (some ⟨q, 0, none⟩) n c) m ms G) (N : P ∉ gblk o (.slice (some ⟨q, 0, none⟩) n c) m ms) (hb : base ≤ P) (i : Nat) (e : Rf) :
    Held (put2 w q i e) base P { G with roots := G.roots.set i e } ∧ Below base w (put2 w q i e) := by
  have hq : base ≤ q := (ownG_lt O q q_in_root).1
  refine ⟨⟨o, _, m, ms, five_ch T (put2_ch w q i e) (fun h => N ((List.mem_singleton.1 h) ▸ q_in_root)), ownG_setRoot O i e, N, hb⟩, ?_⟩
  exact ((Below.refl _ w).setCell (p := ⟨q, i * 2, none⟩) hq _).setCell (p := ⟨q, i * 2 + 1, none⟩) hq _
theorem bel_drew' {base q i : Nat} {e : Rf} {w : World} (h : Below base w (put2 w q i e)) : Below base w (put2 w.drew q i e) := ⟨h.os, h.tape, h.output, h.size, h.block⟩
theorem held_drew {w : World} {base P : Nat} {G : Gr} (h : Held w base P G) : Held w.drew base P G := h
theorem put2_drew (w : World) (q i : Nat) (e : Rf) : put2 w.drew q i e = (put2 w q i e).drew := rfl

theorem copyRoot_no {G : Gr} {t f : Int} (h : (inR 0 5 t && inR 0 5 f) = false) : copyRoot G t f = (G, false) := by unfold copyRoot; rw [h]; rfl
theorem copyRoot_yes {G : Gr} {t f : Int} (h : (inR 0 5 t && inR 0 5 f) = true) : copyRoot G t f = ({ G with roots := G.roots.set t.toNat (rootAt G f) }, true) := by unfold copyRoot; rw [if_pos h]

/-- The cell holds this number. -/
abbrev NumAt (w : World) (b : Nat) (x : Int) : Prop := w.cell? ⟨b, 0, none⟩ = some (.int .i64 x)
end Go.Proofs.Ytdogibjgogcdkac.gr
namespace Go.Proofs.Ytdogibjgogcdkac.gr
open Go.RowKit rows heads
set_option maxRecDepth 100000

theorem gOk_len {G : Gr} (h : gOk G = true) : G.objs.length ≤ 200 ∧ G.roots.length = 6 ∧ G.mourned.length ≤ 40 ∧ 1 ≤ G.next ∧ G.next ≤ 100000 ∧ 0 ≤ G.seed ∧ G.seed ≤ 65535 := by
  unfold gOk at h
  simp only [Bool.and_eq_true] at h
  obtain ⟨⟨⟨h0, _⟩, _⟩, _⟩ := h
  simp only [gHead, inR, Bool.and_eq_true, decide_eq_true_eq] at h0
  omega
theorem own_len {w : World} {base : Nat} {o r m : Value} {ms : List MO} {G : Gr} (O : OwnG w base o r m ms G) : ms.length = G.objs.length := by rw [← O.1]; simp
theorem own_abs {w : World} {base : Nat} {o r m : Value} {ms : List MO} {G : Gr} (O : OwnG w base o r m ms G) (k : Nat) : (ms.getD k moD).slots = (G.objs.getD k obD).slots := by rw [← O.1, abs_getD]; rfl

end Go.Proofs.Ytdogibjgogcdkac.gr
