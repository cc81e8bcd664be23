/-
  Chapter 9 as the specification has it: a word of a heap, a note's end, who is young. Chapter 9 as the specification has it: a note's end, who is young. Lists of entries (a number and a text) in memory: what may be read of one (EntsAt); a row of the call's own (OwnE). How much a list of entries holds, as the laws reckon it. Chapter 5 as lists: which lists are right, a name claimed, an index released, the next hash. Chapter 5 as the specification has it: ClassesOk.
-/
import Derived.Test.YtfbopegdldoocaaGreatM4
import Derived.Test.YtfbopegdldoocaaGreatM5
import Derived.Test.YtfbopegdldoocaaGreatM2
import Derived.Test.YtfbopegdldoocaaGreatM1
namespace Go.Proofs.YtfbopegdldoocaaGreat.hp
open Go.RowKit rows heads words walks
set_option maxRecDepth 100000
set_option linter.unusedVariables false

/-- May the word stand there? -/
def wordIn (H : Hp) (ps : List Int) (x : Int) : Bool := isW x && (!(isA x) || (decide (av x ∈ ps) && !(uF (H.row.getD (av x).toNat 0) == 6)))

set_option maxHeartbeats 4000000 in
theorem l9Word_any {w : World} {vr vo vm vs vp : Value} {H : Hp} (h : HpAt w vr vo vm vs H) {ps : List Int} (hp : IntsAt w vp ps) (hpl : ps.length ≤ 1048576) (hP : Plc H ps) (x : Int) :
    Calls Tryz.prog 53 #[hpv H vr vo vm vs, vp, .int .i64 x] w fun e w' => e = .returned (.bool (wordIn H ps x)) ∧ Below w.heap.size w w' := by
  obtain ⟨a1, c1, a2, c2, a3, c3, a4, c4, e1, e2, e3, e4⟩ := hpAt_slices h
  subst e1 e2 e3 e4
  have hp' := hp
  obtain ⟨ap, cp, rfl, _, _, _, _⟩ := hp
  have B0 : Below w.heap.size w (w.alloc (hpb H (.slice a1 H.row.length c1) (.slice a2 H.roots.length c2) (.slice a3 H.mourned.length c3) (.slice a4 H.seen.length c4))) := (Below.refl _ _).alloc (Nat.le_refl _) _
  obtain ⟨⟨z0, z1, z2, z3, z4⟩, ⟨z5, z6, z7, z8⟩, _⟩ := nine_cells (nine_new w H (.slice a1 H.row.length c1) (.slice a2 H.roots.length c2) (.slice a3 H.mourned.length c3) (.slice a4 H.seen.length c4))
  have HB0 : Hid _ := B0
  have LH := l1Has_any (w := w.alloc (hpb H (.slice a1 H.row.length c1) (.slice a2 H.roots.length c2) (.slice a3 H.mourned.length c3) (.slice a4 H.seen.length c4))) (intsAt_below hp' B0) hpl (av x)
  unfold wordIn
  cases dW : isW x
  · rw [Bool.false_and]
    clear LH
    go_enter Tryz.func53, Tryz.ntmps53
    go_wp2_with (go_at_call 75; refine (sWordOk_any _ _).mono ?_; rintro e w3 ⟨rfl, hw3⟩; rw [hw3, dW]; clear hw3 w3)
    go_ret
    exact ⟨rfl, HB0.out⟩
  · rw [Bool.true_and]
    cases dA : isA x
    · clear LH
      go_enter Tryz.func53, Tryz.ntmps53
      go_wp2_with (first | (go_at_call 75; refine (sWordOk_any _ _).mono ?_; rintro e w3 ⟨rfl, hw3⟩; rw [hw3, dW]; clear hw3 w3) | (go_at_call 34; refine (sAddrOf_any _ _).mono ?_; rintro e w3 ⟨rfl, hw3⟩; rw [hw3, dA]; clear hw3 w3))
      go_ret
      exact ⟨rfl, HB0.out⟩
    · cases dM : decide (av x ∈ ps)
      · rw [dM] at LH
        rw [Bool.false_and, Bool.or_false, Bool.not_true]
        go_enter Tryz.func53, Tryz.ntmps53
        go_wp2_with (first | (go_at_call 75; refine (sWordOk_any _ _).mono ?_; rintro e w3 ⟨rfl, hw3⟩; rw [hw3, dW]; clear hw3 w3) | (go_at_call 34; refine (sAddrOf_any _ _).mono ?_; rintro e w3 ⟨rfl, hw3⟩; rw [hw3, dA]; clear hw3 w3) | (go_at_call 76; refine LH.mono ?_; clear LH; rintro e w3 ⟨rfl, hw3⟩; rw [hw3]; clear hw3 w3))
        go_ret
        exact ⟨rfl, HB0.out⟩
      · rw [dM] at LH
        rw [Bool.true_and, Bool.not_true, Bool.false_or]
        obtain ⟨j, hj, hjl⟩ := hP _ (of_decide_eq_true dM)
        have L4 := l4Head_any (intsAt_below h.1 B0) j hjl
        rw [hj, Int.toNat_natCast]
        unfold hw at L4
        have SA := sAddrOf_any x
        rw [hj] at LH SA
        generalize uF (H.row.getD j 0) = f at *
        generalize uS (H.row.getD j 0) = s at *
        generalize uC (H.row.getD j 0) = c at *
        generalize uH (H.row.getD j 0) = g at *
        generalize uP (H.row.getD j 0) = p at *
        generalize uM (H.row.getD j 0) = m at *
        have FF := field_format s f c g p m
        have hb : (f != 6) = !(f == 6) := rfl
        clear B0 dM h hp'
        go_enter Tryz.func53, Tryz.ntmps53
        go_wp2_with (first | (go_at_call 75; refine (sWordOk_any _ _).mono ?_; rintro e w3 ⟨rfl, hw3⟩; rw [hw3, dW]; clear hw3 w3) | (go_at_call 34; refine (SA _).mono ?_; clear SA; rintro e w3 ⟨rfl, hw3⟩; rw [hw3, dA]; clear hw3 w3) | (go_at_call 76; refine LH.mono ?_; clear LH; rintro e w3 ⟨rfl, hw3⟩; rw [hw3]; clear hw3 w3) | (go_at_call 36; refine L4.mono ?_; clear L4; rintro e w3 ⟨rfl, b3⟩; have HB3 : Hid _ := HB0.out.trans (b3.mono HB0.out.size); clear b3))
        go_ret
        exact ⟨by rw [← hb]; rfl, HB3.out⟩
end Go.Proofs.YtfbopegdldoocaaGreat.hp
namespace Go.Proofs.YtfbopegdldoocaaGreat.hp
open Go.RowKit rows heads words walks
set_option maxRecDepth 100000
set_option linter.unusedVariables false

/-- Is it an address below upstairs? -/
def youngB (H : Hp) (x : Int) : Bool := isA x && decide (av x < 2 * H.half)
theorem av_small (x : Int) (h : isA x = true) : 0 ≤ av x ∧ av x ≤ 999 := by
  have e : av x = x / 4 - 1 := by unfold av; simp [h]
  simp only [isA, Bool.and_eq_true, decide_eq_true_eq] at h
  omega
set_option maxHeartbeats 2000000 in
theorem l9Young_any {w : World} {vr vo vm vs : Value} {H : Hp} (h : HpAt w vr vo vm vs H) (h0 : -1000 ≤ H.half ∧ H.half ≤ 1000) (x : Int) :
    Calls Tryz.prog 56 #[hpv H vr vo vm vs, .int .i64 x] w fun e w' => e = .returned (.bool (youngB H x)) ∧ Below w.heap.size w w' := by
  obtain ⟨a1, c1, a2, c2, a3, c3, a4, c4, e1, e2, e3, e4⟩ := hpAt_slices h
  subst e1 e2 e3 e4
  have HB0 : Hid (Below w.heap.size w (w.alloc (hpb H (.slice a1 H.row.length c1) (.slice a2 H.roots.length c2) (.slice a3 H.mourned.length c3) (.slice a4 H.seen.length c4)))) := (Below.refl _ _).alloc (Nat.le_refl _) _
  obtain ⟨⟨z0, z1, z2, z3, z4⟩, ⟨z5, z6, z7, z8⟩, _⟩ := nine_cells (nine_new w H (.slice a1 H.row.length c1) (.slice a2 H.roots.length c2) (.slice a3 H.mourned.length c3) (.slice a4 H.seen.length c4))
  unfold youngB
  have SA := sAddrOf_any x
  cases dA : isA x
  · rw [dA] at SA
    rw [Bool.false_and]
    clear h
    go_enter Tryz.func56, Tryz.ntmps56
    go_wp2_with (go_at_call 34; refine (SA _).mono ?_; clear SA; rintro e w3 ⟨rfl, hw3⟩; rw [hw3]; clear hw3 w3)
    go_ret
    exact ⟨rfl, HB0.out⟩
  · rw [dA] at SA
    rw [Bool.true_and]
    have hs := av_small x dA
    generalize av x = a at *
    clear h dA
    go_enter Tryz.func56, Tryz.ntmps56
    go_wp2_with (go_at_call 34; refine (SA _).mono ?_; clear SA; rintro e w3 ⟨rfl, hw3⟩; rw [hw3]; clear hw3 w3)
    go_ret
    exact ⟨rfl, HB0.out⟩

/-- Does what a note leads to end, within so many? -/
def endsL (H : Hp) : Nat → Int → Bool
  | 0, _ => false
  | n + 1, p => if uF (H.row.getD p.toNat 0) = 7 then endsL H n (av (H.row.getD (p.toNat + 1) 0)) else true
/-- Notes lead to places. -/
def Notes (H : Hp) (ps : List Int) : Prop := ∀ p ∈ ps, uF (H.row.getD p.toNat 0) = 7 → p.toNat + 1 < H.row.length ∧ isA (H.row.getD (p.toNat + 1) 0) = true ∧ av (H.row.getD (p.toNat + 1) 0) ∈ ps

set_option maxHeartbeats 4000000 in
theorem l9Ends_any {w : World} {vr vo vm vs : Value} {H : Hp} (h : HpAt w vr vo vm vs H) (hrl : H.row.length ≤ 1048576) {ps : List Int} (hP : Plc H ps) (hN : Notes H ps) (p : Int) (hp : p ∈ ps) (n : Nat) (hn : n ≤ 1048576) :
    Calls Tryz.prog 54 #[hpv H vr vo vm vs, .int .i64 p, .int .i64 n] w fun e w' => e = .returned (.bool (endsL H (n + 1) p)) ∧ Below w.heap.size w w' := by
  obtain ⟨a1, c1, a2, c2, a3, c3, a4, c4, e1, e2, e3, e4⟩ := hpAt_slices h
  subst e1 e2 e3 e4
  have B0 : Below w.heap.size w (w.alloc (hpb H (.slice a1 H.row.length c1) (.slice a2 H.roots.length c2) (.slice a3 H.mourned.length c3) (.slice a4 H.seen.length c4))) := (Below.refl _ _).alloc (Nat.le_refl _) _
  have HB0 : Hid _ := B0
  have HT0 : Hid _ := nine_new w H (.slice a1 H.row.length c1) (.slice a2 H.roots.length c2) (.slice a3 H.mourned.length c3) (.slice a4 H.seen.length c4)
  have HH : Hid _ := h
  obtain ⟨R, hR⟩ : ∃ R, endsL H (n + 1) p = R := ⟨_, rfl⟩
  rw [hR]
  have HR : Hid _ := hR
  have HP : Hid _ := hP
  have HN : Hid _ := hN
  clear h B0 hR hP hN
  go_enter Tryz.func54, Tryz.ntmps54
  go_wp2_with fail
  go_loopw [1, 2] (fun u i wz => ∃ (q : Int) (k : Nat), u = .int .i64 q ∧ i = .int .i64 ((k : Int) - 1) ∧ k ≤ n + 1 ∧ q ∈ ps ∧ endsL H k q = R ∧ Nine wz w.heap.size 27 (.int .i64 H.half) (.int .i64 H.old) (.slice a1 H.row.length c1) (.int .i64 H.side) (.int .i64 H.top) (.slice a2 H.roots.length c2) (.slice a3 H.mourned.length c3) (.slice a4 H.seen.length c4) (.int .i64 H.seed) ∧ Below w.heap.size w wz) (fun _ i _ => (intOf i + 1).toNat)
  case atStart => exact ⟨p, n + 1, rfl, by simp, Nat.le_refl _, hp, HR.out, HT0.out, HB0.out⟩
  case round =>
    obtain ⟨q, k, rfl, rfl, hk, hq, hE, hT, hB⟩ := hrel
    clear HT0 HB0 HR
    obtain ⟨j, hj, hjl⟩ := HP.out q hq
    subst hj
    obtain ⟨⟨z0, z1, z2, z3, z4⟩, ⟨z5, z6, z7, z8⟩, _⟩ := nine_cells hT
    have sr := hB.size
    cases k with
    | zero =>
      have hE' : R = false := by rw [← hE]; rfl
      have HE : Hid _ := hE'
      have HB : Hid _ := hB
      have hneg : ¬ ((0 : Nat) : Int) - 1 ≥ 0 := by decide
      clear hE hE' hT hB
      go_wp2
      go_ret
      exact ⟨by rw [HE.out]; rfl, HB.out⟩
    | succ k =>
      have hI := (hpAt_below HH.out hB).1
      have L4 := l4Head_any hI j hjl
      unfold hw at L4
      have hge : ((k + 1 : Nat) : Int) - 1 ≥ 0 := by omega
      have hee : endsL H (k + 1) (j : Int) = if uF (H.row.getD j 0) = 7 then endsL H k (av (H.row.getD (j + 1) 0)) else true := by
        simp only [endsL, Int.toNat_natCast]
      rw [hee] at hE
      have hnn := HN.out (j : Int) hq
      rw [Int.toNat_natCast] at hnn
      generalize uF (H.row.getD j 0) = f at *
      generalize uS (H.row.getD j 0) = s at *
      generalize uC (H.row.getD j 0) = c at *
      generalize uH (H.row.getD j 0) = g at *
      generalize uP (H.row.getD j 0) = p0 at *
      generalize uM (H.row.getD j 0) = m at *
      have FF := field_format s f c g p0 m
      have HT : Hid _ := hT
      have HB : Hid _ := hB
      by_cases h7 : f = 7
      · obtain ⟨hj1, hA, hmem⟩ := hnn h7
        subst h7
        rw [if_pos rfl] at hE
        obtain ⟨a', c', e', _, _, _, hcc⟩ := hI
        have e1 : a1 = a' := by injection e'
        subst e1
        obtain ⟨b, off, rfl, hb, hcc⟩ := hcc (by omega)
        have x1 := hcc (j + 1) hj1
        have SA := sAddrOf_any (H.row.getD (j + 1) 0)
        rw [hA] at SA
        have HE : Hid _ := hE
        have HM : Hid _ := hmem
        generalize H.row.getD (j + 1) 0 = y at *
        generalize av y = ay at *
        have hj1' : ((j : Int) + 1).toNat = j + 1 := by omega
        have hj2 : (0 : Int) ≤ (j : Int) + 1 := by omega
        have hj3 : (j : Int) + 1 < (H.row.length : Int) := by omega
        clear hT hB hE hmem hcc e' hee hnn
        go_wp2_with fail
        refine L4.mono ?_
        rintro e w2 ⟨rfl, b2⟩
        have T2 := nine_below HT.out b2
        have x2 := (b2.cell (p := ⟨b, off + (j + 1), none⟩) hb).trans x1
        obtain ⟨⟨y0, y1, y2, y3, y4⟩, ⟨y5, y6, y7, y8⟩, _⟩ := nine_cells T2
        have HT2 : Hid _ := T2
        have HB2 : Hid _ := HB.out.trans (b2.mono sr)
        clear L4 b2 T2 z0 z1 z2 z3 z4 z5 z6 z7 z8 x1
        go_wp2_with (go_at_call 34; refine (SA _).mono ?_; clear SA; rintro e w3 ⟨rfl, hw3⟩; rw [hw3]; clear hw3 w3)
        exact ⟨⟨ay, k, rfl, by go_num, by omega, HM.out, HE.out, HT2.out, HB2.out⟩, by simp [intOf]⟩
      · have h7' : (f != 7) = true := by simp [h7]
        rw [if_neg h7] at hE
        have HE : Hid (R = true) := hE.symm
        clear hT hB hE hee hnn
        go_wp2_with fail
        refine L4.mono ?_
        rintro e w2 ⟨rfl, b2⟩
        have HB2 : Hid _ := HB.out.trans (b2.mono sr)
        clear L4 b2
        go_wp2
        go_ret
        exact ⟨by rw [HE.out]; rfl, HB2.out⟩
end Go.Proofs.YtfbopegdldoocaaGreat.hp
namespace Go.Proofs.YtfbopegdldoocaaGreat.ents
open Go.RowKit rows

theorem bel_drewN {B n : Nat} {w w' : World} (h : Below B w w') : Below B w (w'.drewN n) := ⟨h.os, h.tape, h.output, h.size, h.block⟩

/-- An entry: its Index, its Name. -/
abbrev Ent := Int × ByteArray
abbrev entD : Ent := (0, ByteArray.empty)
/-- The entries as cells. -/
def cellsE : List Ent → List Value
  | [] => []
  | e :: es => .int .i64 e.1 :: .string e.2 :: cellsE es
theorem cellsE_length : ∀ es : List Ent, (cellsE es).length = es.length * 2
  | [] => rfl
  | _ :: es => by simp [cellsE, cellsE_length es]; omega
theorem cellsE_append : ∀ es fs : List Ent, cellsE (es ++ fs) = cellsE es ++ cellsE fs
  | [], _ => rfl
  | _ :: es, fs => by simp [cellsE, cellsE_append es fs]
theorem cellsE_at : ∀ (es : List Ent) (i : Nat), i < es.length → (cellsE es)[i * 2]? = some (.int .i64 (es.getD i entD).1) ∧ (cellsE es)[i * 2 + 1]? = some (.string (es.getD i entD).2)
  | [], _, h => by simp at h
  | e :: es, 0, _ => by simp [cellsE]
  | e :: es, i + 1, h => by
    have := cellsE_at es i (by simpa using h)
    rw [show (i + 1) * 2 = i * 2 + 1 + 1 by omega]
    simpa [cellsE] using this
theorem cellsE_one : ∀ es : List Ent, ∀ v ∈ cellsE es, v.oneCell' = true
  | [], v, h => by simp [cellsE] at h
  | e :: es, v, h => by
    simp only [cellsE, List.mem_cons] at h
    rcases h with rfl | rfl | h
    · rfl
    · rfl
    · exact cellsE_one es v h

/-- The value v is a slice whose entries are es. -/
def EntsAt (w : World) (v : Value) (es : List Ent) : Prop :=
  ∃ a cap, v = .slice a es.length cap ∧ es.length ≤ cap ∧ cap ≤ maxLen ∧ (a = none → cap = 0) ∧
    (0 < es.length → ∃ b off, a = some ⟨b, off, none⟩ ∧ b < w.heap.size ∧ ∀ i, i < es.length → w.cell? ⟨b, off + i * 2, none⟩ = some (.int .i64 (es.getD i entD).1) ∧ w.cell? ⟨b, off + i * 2 + 1, none⟩ = some (.string (es.getD i entD).2))

theorem entsAt_below {w w' : World} {v : Value} {es : List Ent} (h : EntsAt w v es) (hb : Below w.heap.size w w') : EntsAt w' v es := by
  obtain ⟨a, cap, rfl, h1, h2, h4, h3⟩ := h
  refine ⟨a, cap, rfl, h1, h2, h4, fun hp => ?_⟩
  obtain ⟨b, off, rfl, hlt, hc⟩ := h3 hp
  exact ⟨b, off, rfl, Nat.lt_of_lt_of_le hlt hb.size, fun i hi => ⟨(hb.cell (p := ⟨b, off + i * 2, none⟩) hlt).trans (hc i hi).1, (hb.cell (p := ⟨b, off + i * 2 + 1, none⟩) hlt).trans (hc i hi).2⟩⟩
theorem entsAt_drewN {w : World} {n : Nat} {v : Value} {es : List Ent} (h : EntsAt w v es) : EntsAt (w.drewN n) v es := h

/-- An entry as a value. -/
abbrev ev (e : Ent) : Value := .agg #[.int .i64 e.1, .string e.2]
end Go.Proofs.YtfbopegdldoocaaGreat.ents
namespace Go.Proofs.YtfbopegdldoocaaGreat.ents
open Go.RowKit rows

/-- The bytes of all Names. -/
def namesLen : List Ent → Nat
  | [] => 0
  | e :: es => e.2.size + namesLen es
theorem namesLen_take_succ : ∀ {es : List Ent} {k : Nat}, k < es.length → namesLen (es.take (k + 1)) = namesLen (es.take k) + (es.getD k entD).2.size
  | [], _, h => by simp at h
  | e :: es, 0, _ => by simp [namesLen]
  | e :: es, k + 1, h => by
    have := namesLen_take_succ (es := es) (k := k) (by simpa using h)
    simp [namesLen] at this ⊢
    omega
theorem namesLen_take_le : ∀ (es : List Ent) (k : Nat), namesLen (es.take k) ≤ namesLen es
  | [], k => by simp [namesLen]
  | e :: es, 0 => by simp [namesLen]
  | e :: es, k + 1 => by
    have := namesLen_take_le es k
    simp [namesLen]
    omega
theorem size_le_names : ∀ {es : List Ent} {k : Nat}, k < es.length → (es.getD k entD).2.size ≤ namesLen es
  | [], _, h => by simp at h
  | e :: es, 0, _ => by simp [namesLen]
  | e :: es, k + 1, h => by
    have := size_le_names (es := es) (k := k) (by simpa using h)
    simp [namesLen] at this ⊢
    omega
/-- All Names are such as a machine bears. -/
def Borne (es : List Ent) : Prop := ∀ k, k < es.length → I64 (es.getD k entD).1 ∧ (es.getD k entD).2.size ≤ 9223372036854775807
/-- What is left when all is taken off; -1: it is too much. -/
def szE (es : List Ent) (left : Nat) : Int := if es.length + namesLen es ≤ left then (left : Int) - (es.length + namesLen es : Nat) else -1

end Go.Proofs.YtfbopegdldoocaaGreat.ents
namespace Go.Proofs.YtfbopegdldoocaaGreat.ents
open Go.RowKit rows heads

/-- Are two names alike? -/
def eqN (s t : ByteArray) : Bool := s.toList == t.toList
/-- Is the entry at i right, with those ahead of it? -/
def entOk (es : List Ent) (i : Nat) : Bool :=
  inR 0 99 (es.getD i entD).1 && inR 1 20 ((es.getD i entD).2.size : Int) && (decide (i = 0) || decide ((es.getD (i - 1) entD).1 < (es.getD i entD).1)) && (List.range i).all (fun k => !eqN (es.getD k entD).2 (es.getD i entD).2)
def clsOk (es : List Ent) : Bool := decide (es.length ≤ 40) && (List.range es.length).all (entOk es)
theorem clsOk_no {es : List Ent} {i : Nat} (hi : i < es.length) (h : entOk es i = false) : clsOk es = false := by
  unfold clsOk
  rw [Bool.and_eq_false_iff]
  refine .inr ?_
  rw [List.all_eq_false]
  exact ⟨i, List.mem_range.2 hi, by simp [h]⟩
theorem clsOk_yes {es : List Ent} (hl : es.length ≤ 40) (h : ∀ i, i < es.length → entOk es i = true) : clsOk es = true := by
  unfold clsOk
  rw [Bool.and_eq_true, decide_eq_true_eq, List.all_eq_true]
  exact ⟨hl, fun i hi => h i (List.mem_range.1 hi)⟩
theorem clsOk_at {es : List Ent} (h : clsOk es = true) : es.length ≤ 40 ∧ ∀ i, i < es.length → entOk es i = true := by
  unfold clsOk at h
  rw [Bool.and_eq_true, decide_eq_true_eq, List.all_eq_true] at h
  exact ⟨h.1, fun i hi => h.2 i (List.mem_range.2 hi)⟩
theorem entOk_parts {es : List Ent} {i : Nat} (h : entOk es i = true) : inR 0 99 (es.getD i entD).1 = true ∧ inR 1 20 ((es.getD i entD).2.size : Int) = true ∧ (i = 0 ∨ (es.getD (i - 1) entD).1 < (es.getD i entD).1) ∧ ∀ k, k < i → eqN (es.getD k entD).2 (es.getD i entD).2 = false := by
  unfold entOk at h
  simp only [Bool.and_eq_true, Bool.or_eq_true, decide_eq_true_eq, List.all_eq_true, Bool.not_eq_true'] at h
  exact ⟨h.1.1.1, h.1.1.2, h.1.2, fun k hk => h.2 k (List.mem_range.2 hk)⟩
theorem entOk_yes {es : List Ent} {i : Nat} (h1 : inR 0 99 (es.getD i entD).1 = true) (h2 : inR 1 20 ((es.getD i entD).2.size : Int) = true) (h3 : i = 0 ∨ (es.getD (i - 1) entD).1 < (es.getD i entD).1) (h4 : ∀ k, k < i → eqN (es.getD k entD).2 (es.getD i entD).2 = false) : entOk es i = true := by
  unfold entOk
  simp only [Bool.and_eq_true, Bool.or_eq_true, decide_eq_true_eq, List.all_eq_true, Bool.not_eq_true']
  exact ⟨⟨⟨h1, h2⟩, h3⟩, fun k hk => h4 k (List.mem_range.1 hk)⟩
theorem entOk_no {es : List Ent} {i : Nat} (h : inR 0 99 (es.getD i entD).1 = false ∨ inR 1 20 ((es.getD i entD).2.size : Int) = false ∨ (0 < i ∧ (es.getD i entD).1 ≤ (es.getD (i - 1) entD).1) ∨ ∃ k, k < i ∧ eqN (es.getD k entD).2 (es.getD i entD).2 = true) : entOk es i = false := by
  cases e : entOk es i
  · rfl
  · obtain ⟨p1, p2, p3, p4⟩ := entOk_parts e
    rcases h with h | h | ⟨h, h'⟩ | ⟨k, h, h'⟩
    · rw [h] at p1; cases p1
    · rw [h] at p2; cases p2
    · omega
    · rw [p4 k h] at h'; cases h'

/-- The place of a name; none. -/
def findN (es : List Ent) (name : ByteArray) : Option Nat := (List.range es.length).find? fun i => eqN (es.getD i entD).2 name
/-- The least index that is free: as many as stand at their own places from the start on. -/
def freeK : List Ent → Nat → Nat
  | [], k => k
  | e :: es, k => if e.1 = (k : Int) then freeK es (k + 1) else k
/-- The next hash. -/
def drawH (s : Int) : Int := if inR 0 65535 s = true then (25173 * s + 13849) % 65536 else -1

end Go.Proofs.YtfbopegdldoocaaGreat.ents
namespace Go.Proofs.YtfbopegdldoocaaGreat.ents
open Go.RowKit rows heads

end Go.Proofs.YtfbopegdldoocaaGreat.ents
