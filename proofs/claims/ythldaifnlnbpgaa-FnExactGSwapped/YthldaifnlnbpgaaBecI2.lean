/-
  Chapter 18 as the program has it: becomeInGraph's closure.
  Made from the template BecI2.
-/
import Derived.Test.YthldaifnlnbpgaaM3
import Derived.Test.YthldaifnlnbpgaaGraphIEdit2
import Derived.Test.YthldaifnlnbpgaaGraphEd4
import Derived.LaidEqlPtr
import Derived.Test.YthldaifnlnbpgaaM1
namespace Go.Proofs.Ythldaifnlnbpgaa.gr
open Go.RowKit rows heads region Go.Maps
set_option maxRecDepth 100000
set_option linter.unusedVariables false
set_option linter.unusedSimpArgs false

theorem atI_id {os : List Ob} {id : Int} {k : Nat} (h : atI os id = (k : Int)) : (os.getD k obD).id = id := by
  unfold atI at h
  cases e : os.findIdx? (fun o => o.id == id) with
  | none => rw [e] at h; simp at h
  | some i =>
    rw [e] at h
    rw [List.findIdx?_eq_some_iff_getElem] at e
    obtain ⟨hi, h4, _⟩ := e
    have h' : (i : Int) = (k : Int) := by simpa using h
    obtain rfl : i = k := by omega
    rw [List.getD_eq_getElem?_getD, List.getElem?_eq_getElem hi]
    simpa using h4
theorem plc_ids {G : Gr} (hok : gOk G = true) {a b : Int} (ha : leads G a = true) (hb : leads G b = true) : plc G a = plc G b ↔ (rootAt G a).2 = (rootAt G b).2 := by
  constructor
  · intro h
    have h1 := atI_id (leads_plc hok ha).1
    have h2 := atI_id (leads_plc hok hb).1
    rw [h, h2] at h1
    exact h1.symm
  · intro h
    unfold plc
    rw [h]
/-- The object to which a root leads, as a pointer. -/
def obA (oa : Option Addr) (G : Gr) (x : Int) : Option Addr := if leads G x = true then oa.map (fun q => ⟨q.block, q.off + plc G x * 5, none⟩) else none
theorem objAt_any {w : World} {P : Nat} {r m : Value} {a1 : Option Addr} {n1 c1 : Nat} {ms : List MO} {G : Gr} (T : Five w P 30 (.slice a1 n1 c1) r m (.int .i64 G.next) (.int .i64 G.seed)) (h : GraphAt w (.slice a1 n1 c1) r m ms G) (hl : ms.length ≤ 1048576) (hok : gOk G = true) (x : Int) :
    Calls Try.prog 40 #[.pointer (some ⟨P, 0, none⟩), .int .i64 x] w fun e w' => e = .returned (.pointer (obA a1 G x)) ∧ Below w.heap.size w w' := by
  cases d : leads G x
  · refine (objAt_no T h hl hok x d).mono fun e w' ⟨h1, h2⟩ => ⟨?_, h2⟩
    rw [h1]
    unfold obA
    rw [if_neg (by rw [d]; decide)]
  · refine (objAt_yes T h hl hok x d).mono fun e w' ⟨b, off, e1, h1, h2⟩ => ⟨?_, h2⟩
    rw [h1, e1]
    unfold obA
    rw [if_pos d]
    rfl
theorem leads_wf {G : Gr} (h : Right G) {x : Int} (hl : leads G x = true) : (rootAt G x).1 = 2 ∧ wfR (2, (rootAt G x).2) := by
  unfold leads at hl
  rw [Bool.and_eq_true] at hl
  have h2 : (rootAt G x).1 = 2 := by simpa using hl.2
  have hx : 0 ≤ x ∧ x ≤ 5 := by simpa [inR] using hl.1
  have := refOk_wf h (h.root x.toNat (by omega))
  refine ⟨h2, ?_⟩
  have e : ((2, (rootAt G x).2) : Rf) = G.roots.getD x.toNat refD := by
    have : (G.roots.getD x.toNat refD).1 = 2 := h2
    rw [← this]
  rw [e]
  exact this

def dBc (k : Nat) : Nat := 25 + k
theorem dBc_inj : ∀ k, k < 17 → ∀ j, j < 17 → dBc j = dBc k → j = k := fun k _ j _ e => by unfold dBc at e; omega
def DBc (s : Nat) : Bool := decide (25 ≤ s) && decide (s ≤ 42)
def FBc (P q c2 x1 x2 F n0 : Nat) (X Y : Int) (both : Bool) (k : Nat) (t : Value) (W : World) : Prop :=
  match k with
  | 0 => t = .pointer (some ⟨P, 0, none⟩)
  | 1 => t = .func (.func F) #[] #[]
  | 2 => t = .pointer (some ⟨P, 0, none⟩)
  | 3 => t = .pointer (some ⟨P, 0, none⟩)
  | 4 => t = .pointer (some ⟨P, 1, none⟩)
  | 5 => t = .slice (some ⟨q, 0, none⟩) 6 c2
  | 6 => t = .int .i64 (x1 : Int)
  | 7 => t = .pointer (some ⟨q, x1 * 2, none⟩)
  | 8 => t = rv (2, X)
  | 9 => t = .pointer (some ⟨P, 0, none⟩)
  | 10 => t = .pointer (some ⟨P, 0, none⟩)
  | 11 => t = .pointer (some ⟨P, 1, none⟩)
  | 12 => t = .slice (some ⟨q, 0, none⟩) 6 c2
  | 13 => t = .int .i64 (x2 : Int)
  | 14 => t = .pointer (some ⟨q, x2 * 2, none⟩)
  | 15 => t = rv (2, Y)
  | 16 => ∃ bm nb D, t = .map (some bm) ∧ W.ownsMap Try.prog 47 heldR bm nb D ∧ RMap D (bRef X Y both) ∧ n0 ≤ bm
  | _ => False

set_option maxHeartbeats 16000000 in
theorem cBecome_any {w : World} {base P b1 b2 b3 F : Nat} {G : Gr} (H : Held w base P G) (hok : gOk G = true) (a b : Int) (both : Bool) (n1 : NumAt w b1 a) (n2 : NumAt w b2 b) (n3 : w.cell? ⟨b3, 0, none⟩ = some (.func (.func F) #[] #[]))
    (eg : ∀ args w, (callFunc F args).run Try.prog w = .ok (.enter F args) w) (HCM : Hid (∀ W X Y, wfR (2, X) → wfR (2, Y) → X ≠ Y → Calls Try.prog F #[rv (2, X), rv (2, Y)] W fun e w' => MapMade W w' e (bRef X Y both))) :
    Calls Try.prog 39 #[.pointer (some ⟨P, 0, none⟩), .pointer (some ⟨b1, 0, none⟩), .pointer (some ⟨b2, 0, none⟩), .pointer (some ⟨b3, 0, none⟩)] w fun e w' => e = .returned (.bool (turned G a b both).2) ∧ Held w' base P (turned G a b both).1 ∧ Below base w w' := by
  unfold NumAt at n1 n2
  have hbw := held_base H
  have l1 := cell_lt n1
  have l2 := cell_lt n2
  have l3 := cell_lt n3
  have HH : Hid (∀ V, Below w.heap.size w V → Held V base P G) := fun V hV => held_below H hV
  obtain ⟨o, r, m, ms, T, O, N, hb⟩ := H
  obtain ⟨oa, on, oc, a2, m2, c2, a3, m3, c3, e1, e2, e3⟩ := graphAt_slices (ownG_at O)
  subst e1 e2 e3
  have hml : ms.length ≤ 1048576 := by have := own_len O; have := (gOk_len hok).1; omega
  have HOA : Hid (∀ V, Below w.heap.size w V → Calls Try.prog 40 #[.pointer (some ⟨P, 0, none⟩), .int .i64 a] V fun e w' => e = .returned (.pointer (obA oa G a)) ∧ Below w.heap.size w w') := fun V hV => (objAt_any (five_below T hV) (ownG_at (ownG_below O hV)) hml hok a).mono fun e w' ⟨h1, h2⟩ => ⟨h1, hV.trans (h2.mono hV.size)⟩
  have HOB : Hid (∀ V, Below w.heap.size w V → Calls Try.prog 40 #[.pointer (some ⟨P, 0, none⟩), .int .i64 b] V fun e w' => e = .returned (.pointer (obA oa G b)) ∧ Below w.heap.size w w') := fun V hV => (objAt_any (five_below T hV) (ownG_at (ownG_below O hV)) hml hok b).mono fun e w' ⟨h1, h2⟩ => ⟨h1, hV.trans (h2.mono hV.size)⟩
  have HFC : Hid (∀ V, Below w.heap.size w V → V.cell? ⟨b1, 0, none⟩ = some (.int .i64 a) ∧ V.cell? ⟨b2, 0, none⟩ = some (.int .i64 b) ∧ V.cell? ⟨b3, 0, none⟩ = some (.func (.func F) #[] #[])) := fun V hV => ⟨(hV.cell (p := ⟨b1, 0, none⟩) l1).trans n1, (hV.cell (p := ⟨b2, 0, none⟩) l2).trans n2, (hV.cell (p := ⟨b3, 0, none⟩) l3).trans n3⟩
  cases d1 : leads G a
  · rw [turned_no (by unfold bCan; rw [d1]; rfl)]
    have e1 : obA oa G a = none := by unfold obA; rw [if_neg (by rw [d1]; decide)]
    rw [e1] at HOA
    clear T O N HCM d1 e1 hok n3 l3
    generalize obA oa G b = pb at *
    go_enter Try.func39, Try.ntmps39
    go_upto_region 1 with fail
    go_region_law (first
      | (go_simp; go_at_call 40; refine (HOA.out _ (by first | exact HB1.out | exact (Below.refl _ _).drew)).mono ?_; clear HOA; rintro e w1 ⟨rfl, b1'⟩; obtain ⟨m1, m2, -⟩ := HFC.out _ b1'; have HB1 : Hid _ := b1'; clear b1')
      | (go_simp; go_at_call 40; refine (HOB.out _ (by first | exact HB1.out | exact (Below.refl _ _).drew)).mono ?_; clear HOB; rintro e w1 ⟨rfl, b1'⟩; obtain ⟨m1, m2, -⟩ := HFC.out _ b1'; have HB1 : Hid _ := b1'; clear b1'))
    all_goals go_wp2
    all_goals go_ret
    all_goals exact ⟨rfl, HH.out _ HB1.out, HB1.out.mono hbw⟩
  obtain ⟨g0, hq0⟩ : ∃ g : Nat, oa = some ⟨g, 0, none⟩ := by
    have hp := (leads_plc hok d1).2
    have hl := own_len O
    obtain ⟨_, ⟨e, hn⟩ | ⟨g, cap, cur, e, _⟩⟩ := O.2.1.1
    · omega
    · injection e with e _ _
      exact ⟨_, e⟩
  subst hq0
  have ea : obA (some ⟨g0, 0, none⟩) G a = some ⟨g0, 0 + plc G a * 5, none⟩ := by unfold obA; rw [if_pos d1]; rfl
  rw [ea] at HOA
  cases d2 : leads G b
  · rw [turned_no (by unfold bCan; rw [d2]; simp)]
    have e1 : obA (some ⟨g0, 0, none⟩) G b = none := by unfold obA; rw [if_neg (by rw [d2]; decide)]
    rw [e1] at HOB
    clear T O N HCM d1 d2 e1 hok n3 l3 ea
    generalize 0 + plc G a * 5 = pa at *
    go_enter Try.func39, Try.ntmps39
    go_upto_region 1 with fail
    go_region_law (first
      | (go_simp; go_at_call 40; refine (HOA.out _ (by first | exact HB1.out | exact (Below.refl _ _).drew)).mono ?_; clear HOA; rintro e w1 ⟨rfl, b1'⟩; obtain ⟨m1, m2, m3'⟩ := HFC.out _ b1'; have HB1 : Hid _ := b1'; clear b1')
      | (go_simp; go_at_call 40; refine (HOB.out _ (by first | exact HB1.out | exact (Below.refl _ _).drew)).mono ?_; clear HOB; rintro e w1 ⟨rfl, b1'⟩; obtain ⟨m1, m2, m3'⟩ := HFC.out _ b1'; have HB1 : Hid _ := b1'; clear b1'))
    all_goals go_wp2
    all_goals go_ret
    all_goals exact ⟨rfl, HH.out _ HB1.out, HB1.out.mono hbw⟩
  have eb : obA (some ⟨g0, 0, none⟩) G b = some ⟨g0, 0 + plc G b * 5, none⟩ := by unfold obA; rw [if_pos d2]; rfl
  rw [eb] at HOB
  have hids := plc_ids hok d1 d2
  by_cases d3 : plc G a = plc G b
  · rw [turned_no (by unfold bCan; rw [hids.1 d3]; simp)]
    rw [d3] at HOA
    obtain ⟨j0, hj0, _, _, _⟩ := info_parts infoO
    have hEQ : ∀ V, (binOp .eql 70 (.pointer (some ⟨g0, 0 + plc G b * 5, none⟩)) (.pointer (some ⟨g0, 0 + plc G b * 5, none⟩))).run Try.prog V = .ok (.bool true) V := fun V => run_eql_ptr_same V _ Try.underlying70 hj0
    clear T O N HCM d1 d2 d3 hok n3 l3 ea eb hids hj0
    generalize 0 + plc G b * 5 = pa at *
    go_enter Try.func39, Try.ntmps39
    go_upto_region 1 with fail
    go_region_law (first
      | (go_simp; go_at_call 40; refine (HOA.out _ (by first | exact HB1.out | exact (Below.refl _ _).drew)).mono ?_; clear HOA; rintro e w1 ⟨rfl, b1'⟩; obtain ⟨m1, m2, m3'⟩ := HFC.out _ b1'; have HB1 : Hid _ := b1'; clear b1')
      | (go_simp; go_at_call 40; refine (HOB.out _ (by first | exact HB1.out | exact (Below.refl _ _).drew)).mono ?_; clear HOB; rintro e w1 ⟨rfl, b1'⟩; obtain ⟨m1, m2, m3'⟩ := HFC.out _ b1'; have HB1 : Hid _ := b1'; clear b1'))
    all_goals go_wp2
    all_goals go_ret
    all_goals exact ⟨rfl, HH.out _ HB1.out, HB1.out.mono hbw⟩
  · have hni : ¬ (rootAt G a).2 = (rootAt G b).2 := fun e => d3 (hids.2 e)
    have hr := right_of hok
    obtain ⟨k1', w1'⟩ := leads_wf hr d1
    obtain ⟨k2', w2'⟩ := leads_wf hr d2
    rw [turned_yes (by unfold bCan; rw [d1, d2, show ((rootAt G a).2 != (rootAt G b).2) = true from bne_iff_ne.2 hni]; rfl)]
    have i1 : 0 ≤ a ∧ a ≤ 5 := by have := d1; unfold leads at this; rw [Bool.and_eq_true] at this; simpa [inR] using this.1
    have i2 : 0 ≤ b ∧ b ≤ 5 := by have := d2; unfold leads at this; rw [Bool.and_eq_true] at this; simpa [inR] using this.1
    obtain ⟨x1, rfl⟩ : ∃ k : Nat, a = (k : Int) := ⟨a.toNat, by omega⟩
    obtain ⟨x2, rfl⟩ : ∃ k : Nat, b = (k : Int) := ⟨b.toNat, by omega⟩
    have h6 := (gOk_parts hok).1
    obtain ⟨q, c, er⟩ := ownR_form O.2.2.1 (by omega)
    rw [h6] at er
    injection er with er1 er2 er3
    subst er1 er2 er3
    have hcl : ∀ V, Below w.heap.size w V → (V.cell? ⟨P, 1, none⟩ = some (.slice (some ⟨q, 0, none⟩) 6 c2) ∧ (V.cell? ⟨q, x1 * 2, none⟩ = some (.int .i64 (rootAt G x1).1) ∧ V.cell? ⟨q, x1 * 2 + 1, none⟩ = some (.int .i64 (rootAt G x1).2)) ∧ (V.cell? ⟨q, x2 * 2, none⟩ = some (.int .i64 (rootAt G x2).1) ∧ V.cell? ⟨q, x2 * 2 + 1, none⟩ = some (.int .i64 (rootAt G x2).2))) := fun V hV => by
      have T2 := five_below T hV
      have O2 := ownG_below O hV
      obtain ⟨_, z1, _⟩ := five_cells T2
      exact ⟨z1, ownR_cell O2.2.2.1 (i := x1) (by omega), ownR_cell O2.2.2.1 (i := x2) (by omega)⟩
    have HBS : Hid (∀ V, Below w.heap.size w V → BS w V base P (.slice (some ⟨g0, 0, none⟩) on oc) (.slice (some ⟨q, 0, none⟩) 6 c2) (.slice a3 m3 c3) ms G (bRef (rootAt G x1).2 (rootAt G x2).2 both) 0 0) := fun V hV => (bs_zero T O N hb).below hV
    have HLA : Hid (∀ V bm nb D, BS w V base P (.slice (some ⟨g0, 0, none⟩) on oc) (.slice (some ⟨q, 0, none⟩) 6 c2) (.slice a3 m3 c3) ms G (bRef (rootAt G x1).2 (rootAt G x2).2 both) 0 0 → V.ownsMap Try.prog 47 heldR bm nb D → w.heap.size ≤ bm → RMap D (bRef (rootAt G x1).2 (rootAt G x2).2 both) → Calls Try.prog 41 #[.pointer (some ⟨P, 0, none⟩), .map (some bm)] V fun e w' => e = .returned (.tuple #[]) ∧ Held w' base P (bAll (bRef (rootAt G x1).2 (rootAt G x2).2 both) G) ∧ Below base w w') := fun V bm nb D hB hM hbm hR => (leadAnew_any hB hM hbm hr hR).mono fun e w' ⟨h1, h2⟩ => ⟨h1, h2.done.1, h2.done.2⟩
    have HCL : Hid _ := hcl
    rw [k1', k2'] at HCL
    have HC2 : Hid (∀ W, _) := fun W => HCM.out W _ _ w1' w2' hni
    have hne5 : ¬ 0 + plc G (x1 : Int) * 5 = 0 + plc G (x2 : Int) * 5 := by omega
    obtain ⟨j0, hj0, _, hsz0, _⟩ := info_parts infoO
    have HEQ : Hid (∀ V, Below w.heap.size w V → (binOp .eql 70 (.pointer (some ⟨g0, 0 + plc G (x1 : Int) * 5, none⟩)) (.pointer (some ⟨g0, 0 + plc G (x2 : Int) * 5, none⟩))).run Try.prog V = .ok (.bool false) V) := fun V hV => by
      obtain ⟨_, ⟨e, hn⟩ | ⟨g, cap, cur, e, hg, hh, _⟩⟩ := (ownG_below O hV).2.1.1
      · cases e
      · injection e with e _ _
        injection e with e
        injection e with e
        subst e
        exact run_eql_ptr_other V Try.underlying70 hj0 (by rw [hsz0]; decide) (fun e => hne5 (by injection e)) hh hh
    have hx1 : (x1 : Int) < 6 := by omega
    have hx2 : (x2 : Int) < 6 := by omega
    clear T O N HCM d1 d2 d3 hok n3 l3 ea eb hids hni hr w1' w2' k1' k2' hcl i1 i2 h6 hj0 hsz0
    generalize 0 + plc G (x1 : Int) * 5 = pa at *
    generalize 0 + plc G (x2 : Int) * 5 = pb at *
    generalize (rootAt G (x1 : Int)).2 = X at *
    generalize (rootAt G (x2 : Int)).2 = Y at *
    generalize bAll (bRef X Y both) G = RG at *
    go_enter Try.func39, Try.ntmps39
    go_upto_region 1 with fail
    go_region_law (first
      | (go_simp; go_at_call 40; refine (HOA.out _ (by first | exact HB1.out | exact (Below.refl _ _).drew)).mono ?_; clear HOA; rintro e w1 ⟨rfl, b1'⟩; obtain ⟨m1, m2, m3'⟩ := HFC.out _ b1'; have q5 := HEQ.out _ b1'; have HB1 : Hid _ := b1'; clear b1')
      | (go_simp; go_at_call 40; refine (HOB.out _ (by first | exact HB1.out | exact (Below.refl _ _).drew)).mono ?_; clear HOB; rintro e w1 ⟨rfl, b1'⟩; obtain ⟨m1, m2, m3'⟩ := HFC.out _ b1'; have q5 := HEQ.out _ b1'; have HB1 : Hid _ := b1'; clear b1'))
    all_goals go_wp2_with fail
    all_goals (
      generalize hA0 : (Act.mk _ []) = A0
      have e0 : A0.tmps.getD 0 undef = .pointer (some ⟨P, 0, none⟩) := by rw [← hA0]; rfl
      have e1 : A0.tmps.getD 1 undef = .pointer (some ⟨b1, 0, none⟩) := by rw [← hA0]; rfl
      have e2 : A0.tmps.getD 2 undef = .pointer (some ⟨b2, 0, none⟩) := by rw [← hA0]; rfl
      have e3 : A0.tmps.getD 3 undef = .pointer (some ⟨b3, 0, none⟩) := by rw [← hA0]; rfl
      have sz : A0.tmps.size = 43 := by rw [← hA0]; rfl
      refine wp_region_last (by kernel_rfl) DBc (by simp) ?_ 17 rfl dBc dBc_inj (FBc P q c2 x1 x2 F w1.heap.size X Y both) ?_ ?_ ?_ ?_
      · intro k o ho
        have hk : k < 18 := (Array.getElem?_eq_some_iff.1 ho).1
        rcases (show k = 0 ∨ k = 1 ∨ k = 2 ∨ k = 3 ∨ k = 4 ∨ k = 5 ∨ k = 6 ∨ k = 7 ∨ k = 8 ∨ k = 9 ∨ k = 10 ∨ k = 11 ∨ k = 12 ∨ k = 13 ∨ k = 14 ∨ k = 15 ∨ k = 16 ∨ k = 17 by omega) with rfl | rfl | rfl | rfl | rfl | rfl | rfl | rfl | rfl | rfl | rfl | rfl | rfl | rfl | rfl | rfl | rfl | rfl <;> (obtain rfl := Option.some.inj ho; simp)
      · intro k t W W' hb h
        match k, h with
        | 0, h => exact h
        | 1, h => exact h
        | 2, h => exact h
        | 3, h => exact h
        | 4, h => exact h
        | 5, h => exact h
        | 6, h => exact h
        | 7, h => exact h
        | 8, h => exact h
        | 9, h => exact h
        | 10, h => exact h
        | 11, h => exact h
        | 12, h => exact h
        | 13, h => exact h
        | 14, h => exact h
        | 15, h => exact h
        | 16, h => exact by obtain ⟨bm, nb, D, e, h1, h2, h3⟩ := h; exact ⟨bm, nb, D, e, World.ownsMap.kept (row := none) h1 ⟨hb.os, hb.tape, hb.output, hb.size, fun k hk _ => hb.block k hk⟩ (by simp), h2, h3⟩
        | _ + 17, h => exact h.elim
      · intro l hC kk hkk
        have CL := hC 17 _ rfl (fun h => by omega)
        have l0 : l 0 = true := CL ⟨0, .data⟩ (by simp) (by simp [Region.binds])
        have l16 : l 16 = true := CL ⟨16, .data⟩ (by simp) (by simp [Region.binds])
        have l1 : l 1 = true := hC 16 _ rfl (fun _ => l16) ⟨1, .data⟩ (by simp) (by simp [Region.binds])
        have l8 : l 8 = true := hC 16 _ rfl (fun _ => l16) ⟨8, .data⟩ (by simp) (by simp [Region.binds])
        have l15 : l 15 = true := hC 16 _ rfl (fun _ => l16) ⟨15, .data⟩ (by simp) (by simp [Region.binds])
        have l7 : l 7 = true := hC 8 _ rfl (fun _ => l8) ⟨7, .data⟩ (by simp) (by simp [Region.binds])
        have l5 : l 5 = true := hC 7 _ rfl (fun _ => l7) ⟨5, .data⟩ (by simp) (by simp [Region.binds])
        have l6 : l 6 = true := hC 7 _ rfl (fun _ => l7) ⟨6, .data⟩ (by simp) (by simp [Region.binds])
        have l4 : l 4 = true := hC 5 _ rfl (fun _ => l5) ⟨4, .data⟩ (by simp) (by simp [Region.binds])
        have l3 : l 3 = true := hC 4 _ rfl (fun _ => l4) ⟨3, .data⟩ (by simp) (by simp [Region.binds])
        have l2 : l 2 = true := hC 3 _ rfl (fun _ => l3) ⟨2, .data⟩ (by simp) (by simp [Region.binds])
        have l14 : l 14 = true := hC 15 _ rfl (fun _ => l15) ⟨14, .data⟩ (by simp) (by simp [Region.binds])
        have l12 : l 12 = true := hC 14 _ rfl (fun _ => l14) ⟨12, .data⟩ (by simp) (by simp [Region.binds])
        have l13 : l 13 = true := hC 14 _ rfl (fun _ => l14) ⟨13, .data⟩ (by simp) (by simp [Region.binds])
        have l11 : l 11 = true := hC 12 _ rfl (fun _ => l12) ⟨11, .data⟩ (by simp) (by simp [Region.binds])
        have l10 : l 10 = true := hC 11 _ rfl (fun _ => l11) ⟨10, .data⟩ (by simp) (by simp [Region.binds])
        have l9 : l 9 = true := hC 10 _ rfl (fun _ => l10) ⟨9, .data⟩ (by simp) (by simp [Region.binds])
        rcases (show kk = 0 ∨ kk = 1 ∨ kk = 2 ∨ kk = 3 ∨ kk = 4 ∨ kk = 5 ∨ kk = 6 ∨ kk = 7 ∨ kk = 8 ∨ kk = 9 ∨ kk = 10 ∨ kk = 11 ∨ kk = 12 ∨ kk = 13 ∨ kk = 14 ∨ kk = 15 ∨ kk = 16 by omega) with rfl | rfl | rfl | rfl | rfl | rfl | rfl | rfl | rfl | rfl | rfl | rfl | rfl | rfl | rfl | rfl | rfl
        · exact l0
        · exact l1
        · exact l2
        · exact l3
        · exact l4
        · exact l5
        · exact l6
        · exact l7
        · exact l8
        · exact l9
        · exact l10
        · exact l11
        · exact l12
        · exact l13
        · exact l14
        · exact l15
        · exact l16
      · intro k o u W hk ho hB hF
        have ev : ∀ s, DBc s = true → s < 43 → (ovr DBc A0 u).tmps[s]?.getD undef = u s := fun s h1 h2 => (getD_at _ _).symm.trans (eval_in h1 (by omega))
        have o0 : (ovr DBc A0 u).tmps[0]?.getD undef = _ := (getD_at _ _).symm.trans ((eval_out (D := DBc) (a0 := A0) (u := u) (s := 0) rfl (by omega)).trans e0)
        have o1 : (ovr DBc A0 u).tmps[1]?.getD undef = _ := (getD_at _ _).symm.trans ((eval_out (D := DBc) (a0 := A0) (u := u) (s := 1) rfl (by omega)).trans e1)
        have o2 : (ovr DBc A0 u).tmps[2]?.getD undef = _ := (getD_at _ _).symm.trans ((eval_out (D := DBc) (a0 := A0) (u := u) (s := 2) rfl (by omega)).trans e2)
        have o3 : (ovr DBc A0 u).tmps[3]?.getD undef = _ := (getD_at _ _).symm.trans ((eval_out (D := DBc) (a0 := A0) (u := u) (s := 3) rfl (by omega)).trans e3)
        obtain ⟨m1, m2, m3⟩ := HFC.out _ (HB1.out.trans (hB.mono HB1.out.size))
        obtain ⟨z1, ⟨x1a, x1b⟩, x2a, x2b⟩ := HCL.out _ (HB1.out.trans (hB.mono HB1.out.size))
        rcases (show k = 0 ∨ k = 1 ∨ k = 2 ∨ k = 3 ∨ k = 4 ∨ k = 5 ∨ k = 6 ∨ k = 7 ∨ k = 8 ∨ k = 9 ∨ k = 10 ∨ k = 11 ∨ k = 12 ∨ k = 13 ∨ k = 14 ∨ k = 15 ∨ k = 16 by omega) with rfl | rfl | rfl | rfl | rfl | rfl | rfl | rfl | rfl | rfl | rfl | rfl | rfl | rfl | rfl | rfl | rfl
        all_goals obtain rfl := Option.some.inj ho
        · refine plainV (v := .pointer (some ⟨P, 0, none⟩)) rfl rfl ?_ rfl
          simp only [execOp]
          go_simp
          try go_num
          try (rw [IntKind.wrap_i64]; omega)
        · refine plainV (v := .func (.func F) #[] #[]) rfl rfl ?_ rfl
          simp only [execOp]
          go_simp
          try go_num
          try (rw [IntKind.wrap_i64]; omega)
        · refine plainV (v := .pointer (some ⟨P, 0, none⟩)) rfl rfl ?_ rfl
          simp only [execOp]
          go_simp
          try go_num
          try (rw [IntKind.wrap_i64]; omega)
        · have x2 := (ev 27 rfl (by decide)).trans (hF 2 (by decide) (by simp [Region.binds]))
          refine plainV (v := .pointer (some ⟨P, 0, none⟩)) rfl rfl ?_ rfl
          simp only [execOp]
          go_simp
          try go_num
          try (rw [IntKind.wrap_i64]; omega)
        · have x3 := (ev 28 rfl (by decide)).trans (hF 3 (by decide) (by simp [Region.binds]))
          refine plainV (v := .pointer (some ⟨P, 1, none⟩)) rfl rfl ?_ rfl
          simp only [execOp]
          go_simp
          try go_num
          try (rw [IntKind.wrap_i64]; omega)
        · have x4 := (ev 29 rfl (by decide)).trans (hF 4 (by decide) (by simp [Region.binds]))
          refine plainV (v := .slice (some ⟨q, 0, none⟩) 6 c2) rfl rfl ?_ rfl
          simp only [execOp]
          go_simp
          try go_num
          try (rw [IntKind.wrap_i64]; omega)
        · refine plainV (v := .int .i64 (x1 : Int)) rfl rfl ?_ rfl
          simp only [execOp]
          go_simp
          try go_num
          try (rw [IntKind.wrap_i64]; omega)
        · have x5 := (ev 30 rfl (by decide)).trans (hF 5 (by decide) (by simp [Region.binds]))
          have x6 := (ev 31 rfl (by decide)).trans (hF 6 (by decide) (by simp [Region.binds]))
          refine plainV (v := .pointer (some ⟨q, x1 * 2, none⟩)) rfl rfl ?_ rfl
          simp only [execOp]
          go_simp
          try go_num
          try (rw [IntKind.wrap_i64]; omega)
        · have x7 := (ev 32 rfl (by decide)).trans (hF 7 (by decide) (by simp [Region.binds]))
          refine plainV (v := rv (2, X)) rfl rfl ?_ rfl
          simp only [execOp]
          go_simp
          try go_num
          try (rw [IntKind.wrap_i64]; omega)
        · refine plainV (v := .pointer (some ⟨P, 0, none⟩)) rfl rfl ?_ rfl
          simp only [execOp]
          go_simp
          try go_num
          try (rw [IntKind.wrap_i64]; omega)
        · have x9 := (ev 34 rfl (by decide)).trans (hF 9 (by decide) (by simp [Region.binds]))
          refine plainV (v := .pointer (some ⟨P, 0, none⟩)) rfl rfl ?_ rfl
          simp only [execOp]
          go_simp
          try go_num
          try (rw [IntKind.wrap_i64]; omega)
        · have x10 := (ev 35 rfl (by decide)).trans (hF 10 (by decide) (by simp [Region.binds]))
          refine plainV (v := .pointer (some ⟨P, 1, none⟩)) rfl rfl ?_ rfl
          simp only [execOp]
          go_simp
          try go_num
          try (rw [IntKind.wrap_i64]; omega)
        · have x11 := (ev 36 rfl (by decide)).trans (hF 11 (by decide) (by simp [Region.binds]))
          refine plainV (v := .slice (some ⟨q, 0, none⟩) 6 c2) rfl rfl ?_ rfl
          simp only [execOp]
          go_simp
          try go_num
          try (rw [IntKind.wrap_i64]; omega)
        · refine plainV (v := .int .i64 (x2 : Int)) rfl rfl ?_ rfl
          simp only [execOp]
          go_simp
          try go_num
          try (rw [IntKind.wrap_i64]; omega)
        · have x12 := (ev 37 rfl (by decide)).trans (hF 12 (by decide) (by simp [Region.binds]))
          have x13 := (ev 38 rfl (by decide)).trans (hF 13 (by decide) (by simp [Region.binds]))
          refine plainV (v := .pointer (some ⟨q, x2 * 2, none⟩)) rfl rfl ?_ rfl
          simp only [execOp]
          go_simp
          try go_num
          try (rw [IntKind.wrap_i64]; omega)
        · have x14 := (ev 39 rfl (by decide)).trans (hF 14 (by decide) (by simp [Region.binds]))
          refine plainV (v := rv (2, Y)) rfl rfl ?_ rfl
          simp only [execOp]
          go_simp
          try go_num
          try (rw [IntKind.wrap_i64]; omega)
        · have x1 := (ev 26 rfl (by decide)).trans (hF 1 (by decide) (by simp [Region.binds]))
          have x8 := (ev 33 rfl (by decide)).trans (hF 8 (by decide) (by simp [Region.binds]))
          have x15 := (ev 40 rfl (by decide)).trans (hF 15 (by decide) (by simp [Region.binds]))
          refine plainC (f := F) (args := #[rv (2, X), rv (2, Y)]) rfl rfl ?_ ((HC2.out W).mono ?_)
          · simp only [execOp]
            go_simp
          · rintro e w' ⟨bm, nb, D, rfl, h1, h2, h3, h4⟩
            exact ⟨_, rfl, h4, bm, nb, D, rfl, h1, h2, Nat.le_trans hB.size h3⟩
      · intro o u W ho hB hF
        obtain rfl := Option.some.inj ho
        have ev : ∀ s, DBc s = true → s < 43 → (ovr DBc A0 u).tmps[s]?.getD undef = u s := fun s h1 h2 => (getD_at _ _).symm.trans (eval_in h1 (by omega))
        have o0 : (ovr DBc A0 u).tmps[0]?.getD undef = _ := (getD_at _ _).symm.trans ((eval_out (D := DBc) (a0 := A0) (u := u) (s := 0) rfl (by omega)).trans e0)
        have o1 : (ovr DBc A0 u).tmps[1]?.getD undef = _ := (getD_at _ _).symm.trans ((eval_out (D := DBc) (a0 := A0) (u := u) (s := 1) rfl (by omega)).trans e1)
        have o2 : (ovr DBc A0 u).tmps[2]?.getD undef = _ := (getD_at _ _).symm.trans ((eval_out (D := DBc) (a0 := A0) (u := u) (s := 2) rfl (by omega)).trans e2)
        have o3 : (ovr DBc A0 u).tmps[3]?.getD undef = _ := (getD_at _ _).symm.trans ((eval_out (D := DBc) (a0 := A0) (u := u) (s := 3) rfl (by omega)).trans e3)
        obtain ⟨m1, m2, m3⟩ := HFC.out _ (HB1.out.trans (hB.mono HB1.out.size))
        obtain ⟨z1, ⟨x1a, x1b⟩, x2a, x2b⟩ := HCL.out _ (HB1.out.trans (hB.mono HB1.out.size))
        have x0 := (ev 25 rfl (by decide)).trans (hF 0 (by decide))
        obtain ⟨bm, nb, D, hm, h1, h2, h3⟩ := hF 16 (by decide)
        have x16 := (ev 41 rfl (by decide)).trans hm
        have LA := HLA.out W bm nb D (HBS.out W (HB1.out.trans (hB.mono HB1.out.size))) h1 (Nat.le_trans HB1.out.size h3) h2
        clear h1 h2 hF m1 m2 m3 z1 x1a x1b x2a x2b
        refine wp_call (f := 41) (args := #[.pointer (some ⟨P, 0, none⟩), .map (some bm)]) ?_ (LA.mono ?_)
        · simp only [execOp]
          go_simp
        · rintro e w9 ⟨rfl, h8, h9⟩
          refine ⟨_, rfl, _, put_in (d := 42) rfl rfl u _, ?_⟩
          have H8 : Hid _ := h8
          have H9 : Hid _ := h9
          have HW9 : Hid (Below base w w9) := h9
          clear h8 h9 ev LA o0 o1 o2 o3 e0 e1 e2 e3 sz x0 x16 hB ho hm h3
          subst hA0
          simp [ovr, DBc, List.range, List.range.loop]
          go_wp2
          go_ret
          exact ⟨rfl, H8.out, HW9.out⟩)
end Go.Proofs.Ythldaifnlnbpgaa.gr
