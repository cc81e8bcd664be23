/-
  Chapter 9 as the specification has it: HeapOk and Young. Chapter 8 as the program has it: container/heap.Push and Pop over free chunks. Chapter 8 as the program has it: the least of the free chunks taken out. Chapter 8 as the program has it: BestFit.
-/
import Derived.Test.YthfhjgkpabkeaaaGreatHeapS7
import Derived.Test.YthfhjgkpabkeaaaGreatHeapT
import Derived.Test.YthfhjgkpabkeaaaGreatFitI6
import Derived.Test.YthfhjgkpabkeaaaGreatM12
namespace Go.Proofs.YthfhjgkpabkeaaaGreat.hp
open Go.RowKit rows heads words walks region
set_option maxRecDepth 100000
set_option linter.unusedVariables false
set_option linter.unusedSimpArgs false

theorem right_some {H : Hp} (h : rightB H = true) : ∃ ps, placesR H = some ps := by
  unfold rightB at h
  cases d : placesR H with
  | none => rw [d] at h; cases h
  | some ps => exact ⟨ps, rfl⟩

set_option maxHeartbeats 8000000 in
theorem sHeapOk_any {w : World} {vr vo vm vs : Value} {H : Hp} (h : HpAt w vr vo vm vs H) (hs : hpSize H ≤ 1048576) :
    Calls Tryz.prog 15 #[hpv H vr vo vm vs] w fun e w' => e = .returned (.bool (heapOk H)) ∧ Below w.heap.size w w' := by
  obtain ⟨_, _, _, hsl⟩ := hp_parts hs
  obtain ⟨a1, c1, a2, c2, a3, c3, a4, c4, e1, e2, e3, e4⟩ := hpAt_slices h
  subst e1 e2 e3 e4
  have B0 : Below w.heap.size w (w.alloc (hpb H (.slice a1 H.row.length c1) (.slice a2 H.roots.length c2) (.slice a3 H.mourned.length c3) (.slice a4 H.seen.length c4))) := (Below.refl _ _).alloc (Nat.le_refl _) _
  have T0 := nine_new w H (.slice a1 H.row.length c1) (.slice a2 H.roots.length c2) (.slice a3 H.mourned.length c3) (.slice a4 H.seen.length c4)
  have HT0 : Hid _ := T0
  have HB0 : Hid _ := B0
  have HH0 : Hid (HpAt _ (.slice a1 H.row.length c1) (.slice a2 H.roots.length c2) (.slice a3 H.mourned.length c3) (.slice a4 H.seen.length c4) H) := hpAt_below h B0
  cases dr : rightB H
  · have e : heapOk H = false := by unfold heapOk; rw [dr]; rfl
    rw [e]
    obtain ⟨⟨z0, z1, z2, z3, z4⟩, ⟨z5, z6, z7, z8⟩⟩ := nine_grow T0
    have HWD : Hid (∀ x : Ext (w.alloc (hpb H (.slice a1 H.row.length c1) (.slice a2 H.roots.length c2) (.slice a3 H.mourned.length c3) (.slice a4 H.seen.length c4))).heap.size (w.alloc (hpb H (.slice a1 H.row.length c1) (.slice a2 H.roots.length c2) (.slice a3 H.mourned.length c3) (.slice a4 H.seen.length c4))), Calls Tryz.prog 35 #[hpv H (.slice a1 H.row.length c1) (.slice a2 H.roots.length c2) (.slice a3 H.mourned.length c3) (.slice a4 H.seen.length c4)] x.to fun e w'' => e = .returned (.bool false) ∧ ∃ y : Ext (w.alloc (hpb H (.slice a1 H.row.length c1) (.slice a2 H.roots.length c2) (.slice a3 H.mourned.length c3) (.slice a4 H.seen.length c4))).heap.size (w.alloc (hpb H (.slice a1 H.row.length c1) (.slice a2 H.roots.length c2) (.slice a3 H.mourned.length c3) (.slice a4 H.seen.length c4))), w'' = y.to) := fun x => calls_grow (Nat.le_refl _) (dr ▸ l9Right_any (hpAt_below HH0.out x.below))
    clear B0 T0 h e dr
    go_enter Tryz.func15, Tryz.ntmps15
    go_upto_region 1 with fail
    generalize (w.alloc (hpb H (.slice a1 H.row.length c1) (.slice a2 H.roots.length c2) (.slice a3 H.mourned.length c3) (.slice a4 H.seen.length c4))) = X at *
    haveI := ext_any X
    refine region_grow (n := X.heap.size) (by kernel_rfl) (by kernel_rfl) ?_
    repeat (go_big_quiet_step ((go_at_call 35; exact HWD.out _)))
    refine wpQuiet_nil ?_
    intro _ hw'
    obtain ⟨x, rfl⟩ := hw'
    have HBE : Hid _ := HB0.out.trans (x.below.mono HB0.out.size)
    clear z0 z1 z2 z3 z4 z5 z6 z7 z8 HWD
    generalize x.to = W at *
    clear x this
    go_wp2
    go_ret
    exact ⟨rfl, HBE.out⟩
  · have e : heapOk H = decide (H.seen = seenL H) := by unfold heapOk; rw [dr]; rfl
    rw [e]
    obtain ⟨ps, hps⟩ := right_some dr
    obtain ⟨N, _, r, u, _, hu, _, _⟩ := places_facts hps
    have HR9 : Hid (∀ W, Below (w.alloc (hpb H (.slice a1 H.row.length c1) (.slice a2 H.roots.length c2) (.slice a3 H.mourned.length c3) (.slice a4 H.seen.length c4))).heap.size (w.alloc (hpb H (.slice a1 H.row.length c1) (.slice a2 H.roots.length c2) (.slice a3 H.mourned.length c3) (.slice a4 H.seen.length c4))) W → Calls Tryz.prog 35 #[hpv H (.slice a1 H.row.length c1) (.slice a2 H.roots.length c2) (.slice a3 H.mourned.length c3) (.slice a4 H.seen.length c4)] W fun e w' => e = .returned (.bool true) ∧ Below W.heap.size W w') := fun W hW => dr ▸ l9Right_any (hpAt_below HH0.out hW)
    have HS9 : Hid (∀ W, Below (w.alloc (hpb H (.slice a1 H.row.length c1) (.slice a2 H.roots.length c2) (.slice a3 H.mourned.length c3) (.slice a4 H.seen.length c4))).heap.size (w.alloc (hpb H (.slice a1 H.row.length c1) (.slice a2 H.roots.length c2) (.slice a3 H.mourned.length c3) (.slice a4 H.seen.length c4))) W → Calls Tryz.prog 37 #[hpv H (.slice a1 H.row.length c1) (.slice a2 H.roots.length c2) (.slice a3 H.mourned.length c3) (.slice a4 H.seen.length c4)] W fun e w' => ∃ v', e = .returned v' ∧ rows.Own w' W.heap.size v' (seenL H) ∧ Below W.heap.size W w') := fun W hW => l9Seen_any (hpAt_below HH0.out hW) N hu
    generalize seenL H = S at *
    clear B0 h e dr hps N hu
    go_enter Tryz.func15, Tryz.ntmps15
    go_upto_region 1 with fail
    generalize (w.alloc (hpb H (.slice a1 H.row.length c1) (.slice a2 H.roots.length c2) (.slice a3 H.mourned.length c3) (.slice a4 H.seen.length c4))) = X at *
    obtain ⟨⟨z0, z1, z2, z3, z4⟩, ⟨z5, z6, z7, z8⟩, _⟩ := nine_cells T0
    clear T0
    go_region_law (first
      | (have hh := HR9; clear hh; go_simp; go_at_call 35; refine (HR9.out _ (Below.refl _ _).drew).mono ?_; clear HR9; rintro e w2 ⟨rfl, b2⟩; have b2' : Below X.heap.size X w2 := ⟨b2.os, b2.tape, b2.output, b2.size, b2.block⟩; have HB2 : Hid _ := b2'; clear b2 b2' z0 z1 z2 z3 z4 z5 z6 z7 z8; obtain ⟨⟨z0, z1, z2, z3, z4⟩, ⟨z5, z6, z7, z8⟩, _⟩ := nine_cells (nine_below HT0.out HB2.out))
      | (have hh := HS9; clear hh; go_simp; go_at_call 37; refine (HS9.out _ HB2.out).mono ?_; clear HS9; rintro e w3 ⟨v3, rfl, O3, b3⟩; have HB3 : Hid (Below X.heap.size X w3) := HB2.out.trans (b3.mono HB2.out.size); have HSM : Hid _ := l1Same_any (intsAt_below HH0.out.2.2.2 HB3.out) (own_ints O3) hsl; obtain ⟨sa, sn, sc, rfl⟩ := ints_slice (own_ints O3); clear O3 b3 z0 z1 z2 z3 z4 z5 z6 z7 z8; obtain ⟨⟨z0, z1, z2, z3, z4⟩, ⟨z5, z6, z7, z8⟩, _⟩ := nine_cells (nine_below HT0.out HB3.out))
      | (have hh := HSM; clear hh; go_simp; go_at_call 36; refine Calls.mono HSM.out ?_; clear HSM; rintro e w4 ⟨rfl, q4⟩; have HB4 : Hid (Below w.heap.size w w4) := (HB0.out.trans (HB3.out.mono HB0.out.size)).trans ((bel_of_drewN q4).mono (HB0.out.trans (HB3.out.mono HB0.out.size)).size); clear q4))
    all_goals (go_wp2)
    all_goals go_ret
    all_goals exact ⟨rfl, HB4.out⟩

/-- Is the word young, of a heap that is right? -/
def youngOk (H : Hp) (x : Int) : Bool := heapOk H && youngB H x
theorem ok_nums {H : Hp} (h : heapOk H = true) : Nums H := by
  unfold heapOk at h
  rw [Bool.and_eq_true] at h
  obtain ⟨ps, hps⟩ := right_some h.1
  exact (places_facts hps).1
end Go.Proofs.YthfhjgkpabkeaaaGreat.hp
namespace Go.Proofs.YthfhjgkpabkeaaaGreat.walks
open Go.RowKit rows heads words region
set_option maxRecDepth 100000
set_option linter.unusedVariables false
set_option linter.unusedSimpArgs false

abbrev runv (x : Run) : Value := .agg #[.int .i64 (x.1 : Int), .int .i64 (x.2 : Int)]
theorem Bag.pushed {w w' : World} {base P c : Nat} {hi : Nat → Prop} {a : Option Addr} {R : List Run} {x : Run} {v' : Value} (h : Bag w base P hi R) (hk : ∀ k, (Value.slice a R.length c).ownBlock = some k → ¬ hi k ∧ k ≠ P) (hbk : ∀ k, (Value.slice a R.length c).ownBlock = some k → base ≤ k) (hA : PuA w w' base P a R.length c R x v') (hX : Box w' P v') (hl : R.length < 1048576) : Bag w' base P hi (R ++ [x]) ∧ Kp base P hi w w' := by
  have h1 := h.le
  have h3 := h.pw
  obtain ⟨a', c', e⟩ := ownF_slice hA.own
  refine ⟨⟨⟨a', c', by rw [← e]; exact hX, by rw [← e]; exact hA.own, fun k e2 => ?_⟩, h1, h.nP, fun k hk => Nat.lt_of_lt_of_le (h.sw k hk) hA.fr.size, by rw [List.length_append, List.length_singleton]; omega⟩, ⟨hA.fr.os, hA.fr.tape, hA.fr.output, hA.fr.size, fun k hkb => ?_⟩, fun k p1 => ?_⟩
  · rw [← e] at e2
    rcases hA.at' with q | ⟨k', q, hk'⟩
    · exact hk k (q ▸ e2)
    · rw [q] at e2
      injection e2 with e2
      exact ⟨fun e3 => by have := h.sw k e3; omega, by omega⟩
  · exact hA.fr.block k (by omega) (by omega) (fun e2 => by have := hbk k e2; omega)
  · exact hA.fr.block k (h.sw k p1) (fun e2 => h.nP (e2 ▸ p1)) (fun e2 => (hk k e2).1 p1)
set_option maxHeartbeats 8000000 in
theorem heapPush_any {w : World} {base P : Nat} {hi : Nat → Prop} {R : List Run} (hB : Bag w base P hi R) (hH : HeapF R R.length) (hl : R.length < 1048576) (x : Run) :
    Calls Tryz.prog 125 #[bagv P, .iface 81 (runv x)] w fun e w' => e = .returned (.tuple #[]) ∧ ∃ R', Bag w' base P hi R' ∧ R'.length = R.length + 1 ∧ HeapF R' R'.length ∧ (∀ y, y ∈ R' ↔ y ∈ R ++ [x]) ∧ Kp base P hi w w' := by
  obtain ⟨a, c, hx, hO, hk⟩ := hB.ex
  have PU := (pushM_any hx hO (fun e => (hk P e).2 rfl) hl hB.le x).mono (fun e w' (hh : e = .returned (.tuple #[]) ∧ ∃ v', PuA w w' base P a R.length c R x v' ∧ Box w' P v') => (⟨hh.1, by
    obtain ⟨v', hA, hX⟩ := hh.2
    exact hB.pushed hk (fun k e => (ownF_lt hO k e).1) hA hX hl⟩ : e = .returned (.tuple #[]) ∧ Bag w' base P hi (R ++ [x]) ∧ Kp base P hi w w'))
  have MP := mPush (w := w) (P := P)
  have HUP : Hid (∀ V, Bag V base P hi (R ++ [x]) → (∃ v, V.cell? ⟨P, 0, none⟩ = some v ∧ ∃ a c, v = .slice a (R.length + 1) c) ∧ Calls Tryz.prog 142 #[.iface 134 (.pointer (some ⟨P, 0, none⟩)), .int .i64 (R.length : Int)] V fun e w' => e = .returned (.tuple #[]) ∧ ∃ R', Bag w' base P hi R' ∧ R'.length = (R ++ [x]).length ∧ HeapF R' R'.length ∧ (∀ y, y ∈ R' ↔ y ∈ R ++ [x]) ∧ Kp base P hi V w') := fun V hV => by
    obtain ⟨a', c', b', _⟩ := hV.ex
    rw [List.length_append, List.length_singleton] at b'
    exact ⟨⟨_, (box_cell b').1, _, _, rfl⟩, up_any hV (up_push hH x)⟩
  have i1 : (R.length : Int) + 1 - 1 = (R.length : Int) := by omega
  obtain ⟨n, hn⟩ : ∃ n, R.length = n := ⟨_, rfl⟩
  have HN : Hid _ := hn
  simp only [hn] at HUP i1 hl
  clear hB hH hx hO hk hn
  unfold bagv runv
  unfold runv at *
  go_enter Tryz.func125, Tryz.ntmps125
  go_wp2_with (first
    | (go_at_call 184; refine PU.mono ?_; clear PU MP; rintro e w1 ⟨rfl, B1, K1⟩; obtain ⟨⟨v1, z1, a1, c1, rfl⟩, UP⟩ := HUP.out w1 B1; have ML := mLen z1; have LN := lenF_any a1 (n + 1) c1 w1 (by omega); have HK1 : Hid _ := K1; clear B1 K1 HUP)
    | (go_at_call 126; refine LN.mono ?_; clear LN ML z1; rintro e w2 ⟨rfl, hw2⟩; rw [← hw2] at UP HK1; clear hw2)
    | (go_at_call 142; refine UP.mono ?_; clear UP; rintro e w3 ⟨rfl, H3⟩; have HH3 : Hid _ := H3; clear H3))
  obtain ⟨R', h1, h2, h3, h4, h5⟩ := HH3.out
  exact bodyPost_end (results_none rfl _ _ _) rfl ⟨rfl, R', h1, by rw [h2]; simp, h3, h4, HK1.out.trans h5⟩
end Go.Proofs.YthfhjgkpabkeaaaGreat.walks
namespace Go.Proofs.YthfhjgkpabkeaaaGreat.walks
open Go.RowKit rows heads words region
set_option maxRecDepth 100000
set_option linter.unusedVariables false
set_option linter.unusedSimpArgs false

/-- What is so behind the least's being taken. -/
def Taken (w' : World) (base P : Nat) (hi : Nat → Prop) (m : Nat) (R : List Run) : Prop := ∃ R', Bag w' base P hi (R'.take m) ∧ R'.length = m + 1 ∧ HeapF R' m ∧ (∀ y, y ∈ R' ↔ y ∈ R) ∧ rd R' m = rd R 0
set_option maxHeartbeats 8000000 in
theorem heapPop_any {w : World} {base P m : Nat} {hi : Nat → Prop} {R : List Run} (hB : Bag w base P hi R) (hl : R.length = m + 1) (hH : HeapF R (m + 1)) :
    Calls Tryz.prog 143 #[bagv P] w fun e w' => e = .returned (.iface 81 (runv (rd R 0))) ∧ Taken w' base P hi m R ∧ Kp base P hi w w' := by
  obtain ⟨g, c, hx, hO, hg, hbg⟩ := hB.open' (by omega)
  have hlen := hB.len
  have z0 := (box_cell hx).1
  have ML := mLen z0
  have MS := mSwap z0
  have LN := lenF_any (some ⟨g, 0, none⟩) R.length c w hB.len
  have SW := (swap_any hO (i := 0) (j := m) (by omega) (by omega) hB.len).mono (fun e w' (hh : e = .returned (.tuple #[]) ∧ OwnF w' base (.slice (some ⟨g, 0, none⟩) R.length c) (swp R 0 m) ∧ Below base w w' ∧ ∀ k, k ≠ g → w'.heap[k]? = w.heap[k]?) => (⟨hh.1, hB.swapped hx hg hh.2.1 hh.2.2.1 (fun q hq _ => hh.2.2.2 q hq)⟩ : e = .returned (.tuple #[]) ∧ Bag w' base P hi (swp R 0 m) ∧ Kp base P hi w w'))
  have HDN : Hid (∀ V, Bag V base P hi (swp R 0 m) → Calls Tryz.prog 149 #[.iface 134 (.pointer (some ⟨P, 0, none⟩)), .int .i64 0, .int .i64 (m : Int)] V fun e w' => (∃ b, e = .returned (.bool b)) ∧ ∃ R', Bag w' base P hi R' ∧ R'.length = (swp R 0 m).length ∧ HeapF R' m ∧ (∀ x, x ∈ R' ↔ x ∈ swp R 0 m) ∧ (∀ k, m ≤ k → rd R' k = rd (swp R 0 m) k) ∧ Kp base P hi V w') := fun V hV => down_any hV (down_pop hH hl) (Nat.zero_le _)
  have HPM : Hid (∀ V R', Bag V base P hi R' → R'.length = m + 1 → Calls Tryz.prog 183 #[.pointer (some ⟨P, 0, none⟩)] V fun e w' => e = .returned (.iface 81 (runv (rd R' m))) ∧ Bag w' base P hi (R'.take m) ∧ Kp base P hi V w') := fun V R' hV hl' => by
    obtain ⟨g', c', hx', hO', hg', hbg'⟩ := hV.open' (by omega)
    have h1 := hV.le
    have h3 := hV.pw
    rw [hl'] at hx' hO'
    refine (popM_any hx' hO' hg'.2 (by omega)).mono ?_
    rintro e w' ⟨rfl, hb, ho, fr⟩
    have el : (R'.take m).length = m := by rw [List.length_take]; omega
    refine ⟨rfl, ⟨⟨some ⟨g', 0, none⟩, c', by rw [el]; exact hb, by rw [el]; exact ho, fun k hk => ?_⟩, h1, hV.nP, fun k hk => Nat.lt_of_lt_of_le (hV.sw k hk) fr.size, by rw [el]; omega⟩, ⟨fr.os, fr.tape, fr.output, fr.size, fun k hk => fr.block k (by omega) (by omega) (by simp)⟩, fun k p1 => fr.block k (hV.sw k p1) (fun e => hV.nP (e ▸ p1)) (by simp)⟩
    have : g' = k := Option.some.inj hk
    exact this ▸ hg'
  have i1 : (R.length : Int) - 1 = (m : Int) := by omega
  have HFIN : Hid (∀ R', R'.length = (swp R 0 m).length → (∀ x, x ∈ R' ↔ x ∈ swp R 0 m) → (∀ k, m ≤ k → rd R' k = rd (swp R 0 m) k) → R'.length = m + 1 ∧ (∀ y, y ∈ R' ↔ y ∈ R) ∧ rd R' m = rd R 0) := fun R' h1 h2 h3 => by
    rw [swp_len] at h1
    refine ⟨by omega, fun y => (h2 y).trans (swp_mem (by omega) (by omega) y), ?_⟩
    rw [h3 m (Nat.le_refl _), swp_get (by omega) (by omega), if_pos rfl]
  have hml : m ≤ 1048576 := by omega
  have MP := fun V => mPop (w := V) (P := P)
  clear hB hH hx hO hg hbg z0
  obtain ⟨N, hN⟩ : ∃ N, R.length = N := ⟨_, rfl⟩
  rw [hN] at ML MS LN SW hlen i1
  clear hN hl
  unfold bagv
  go_enter Tryz.func143, Tryz.ntmps143
  go_wp2_with (first
    | (go_at_call 126; refine LN.mono ?_; clear LN ML; rintro e w2 ⟨rfl, hw2⟩; rw [hw2]; clear hw2 w2)
    | (go_at_call 181; refine SW.mono ?_; clear SW MS; rintro e w3 ⟨rfl, B3, K3⟩; have DN := HDN.out w3 B3; have HK3 : Hid _ := K3; clear B3 K3 HDN)
    | (go_at_call 149; refine DN.mono ?_; clear DN; rintro e w4 ⟨⟨b, rfl⟩, R', B4, h1, h2, h3, h4, K4⟩; obtain ⟨q1, q2, q3⟩ := HFIN.out R' h1 h3 h4; have PM := HPM.out w4 R' B4 q1; rw [q3] at PM; have HK4 : Hid _ := HK3.out.trans K4; have HH4 : Hid _ := And.intro h2 (And.intro q1 (And.intro q2 q3)); have MP4 := MP w4; clear B4 h1 h2 h3 h4 K4 q1 q2 q3 HFIN HPM)
    | (go_at_call 183; refine PM.mono ?_; clear PM; rintro e w5 ⟨rfl, B5, K5⟩; have HB5 : Hid _ := B5; have HK5 : Hid _ := HK4.out.trans K5; clear B5 K5))
  go_ret
  exact ⟨rfl, ⟨R', HB5.out, HH4.out.2.1, HH4.out.1, HH4.out.2.2.1, HH4.out.2.2.2⟩, HK5.out⟩
set_option maxHeartbeats 4000000 in
theorem takeLeast_any {w : World} {base P m : Nat} {hi : Nat → Prop} {R : List Run} (hB : Bag w base P hi R) (hl : R.length = m + 1) (hH : HeapF R (m + 1)) :
    Calls Tryz.prog 127 #[.pointer (some ⟨P, 0, none⟩)] w fun e w' => e = .returned (runv (rd R 0)) ∧ Taken w' base P hi m R ∧ Kp base P hi w w' := by
  have B1 : Below w.heap.size w (w.alloc (fcb 0 0)) := (Below.refl _ _).alloc (Nat.le_refl _) _
  obtain ⟨hB1, K1⟩ := hB.grow B1
  have hPw := hB.pw
  have hbw := hB.base
  have hMo := hB1.more (B := w.heap.size) (by simp) (by omega) (fun a c hb e => by
    obtain ⟨a', c', q1, q2, q3⟩ := hB.ex
    have q1' : Box (w.alloc (fcb 0 0)) P _ := (B1.block P hPw).trans q1
    have e2 : Value.slice a R.length c = .slice a' R.length c' := by
      have := hb.symm.trans q1'
      injection this with this
      injection this with this
      simpa using this
    rw [e2] at e
    have := (ownF_lt q2 _ e).2
    omega)
  have PO := (heapPop_any hMo hl hH).mono (fun e w' (hh : e = .returned (.iface 81 (runv (rd R 0))) ∧ Taken w' base P (fun k => hi k ∨ k = w.heap.size) m R ∧ Kp base P (fun k => hi k ∨ k = w.heap.size) (w.alloc (fcb 0 0)) w') => (⟨hh.1, hh.2.1, K1.trans hh.2.2.less, (hh.2.2.mid _ (.inr rfl)).trans (heap_alloc_new w (fcb 0 0))⟩ : e = .returned (.iface 81 (runv (rd R 0))) ∧ Taken w' base P (fun k => hi k ∨ k = w.heap.size) m R ∧ Kp base P hi w w' ∧ w'.heap[w.heap.size]? = some (fcb 0 0)))
  obtain ⟨x, hx⟩ : ∃ x, rd R 0 = x := ⟨_, rfl⟩
  rw [hx] at PO
  rw [hx]
  have HX : Hid _ := hx
  have HTK : Hid (∀ W W' : World, Taken W base P (fun k => hi k ∨ k = w.heap.size) m R → (∀ k, k ≠ w.heap.size → W'.heap[k]? = W.heap[k]?) → W'.heap.size = W.heap.size → Taken W' base P hi m R) := fun W W' ⟨R', hb, q1, q2, q3, q4⟩ hs hz => by
    refine ⟨R', ?_, q1, q2, q3, q4⟩
    obtain ⟨a', c', p1, p2, p3⟩ := hb.ex
    refine ⟨⟨a', c', (hs P (by omega)).trans p1, ?_, fun k hk => ⟨fun e => (p3 k hk).1 (.inl e), (p3 k hk).2⟩⟩, hb.le, fun e => hb.nP (.inl e), fun k hk => by rw [hz]; exact hb.sw k (.inl hk), hb.len⟩
    obtain ⟨h0, ⟨h1, h2⟩ | ⟨g', cap, cur, h1, hg, hh, hle, hmx, hs', ht⟩⟩ := p2
    · exact ⟨h0, .inl ⟨h1, h2⟩⟩
    · exact ⟨h0, .inr ⟨g', cap, cur, h1, hg, (hs g' (fun e => (p3 g' (by rw [h1]; rfl)).1 (.inr e))).trans hh, hle, hmx, hs', ht⟩⟩
  have HKP : Hid (∀ W W' : World, Kp base P hi w W → (∀ k, k ≠ w.heap.size → W'.heap[k]? = W.heap[k]?) → Below w.heap.size W W' → Kp base P hi w W') := fun W W' hk hs hb => ⟨hk.below.trans (hb.mono hbw), fun k e => (hs k (by have := hB.sw k e; omega)).trans (hk.mid k e)⟩
  clear hB hB1 K1 B1 hMo hH hl hPw hx
  unfold bagv at PO
  go_enter Tryz.func127, Tryz.ntmps127
  go_wp2_with (go_at_call 143; refine PO.mono ?_; clear PO; rintro e w2 ⟨rfl, T2, K2, N2⟩; have as2 := asF (runv x) w2; have HT2 : Hid _ := T2; have HK2 : Hid _ := K2; have HN2 : Hid _ := N2; have f0 : w2.frozen? ⟨w.heap.size, 0, none⟩ = false := (by simp [World.frozen?, N2, fcb]); have f1 : w2.frozen? ⟨w.heap.size, 1, none⟩ = false := (by simp [World.frozen?, N2, fcb]); have x0 : w2.cell? ⟨w.heap.size, 0, none⟩ = some (.int .i64 0) := (by simp [World.cell?, N2, fcb]); have x1 : w2.cell? ⟨w.heap.size, 1, none⟩ = some (.int .i64 0) := (by simp [World.cell?, N2, fcb]); clear T2 K2 N2)
  have NW : ((w2.setCell ⟨w.heap.size, 0, none⟩ (.int .i64 (x.1 : Int))).setCell ⟨w.heap.size, 1, none⟩ (.int .i64 (x.2 : Int))).heap[w.heap.size]? = some (fcb x.1 x.2) := by
    simp [World.setCell, Array.getElem?_modify, HN2.out, fcb]
  have c0 := cellW_of (cs := [.int .i64 (x.1 : Int), .int .i64 (x.2 : Int)]) (i := 0) NW rfl
  have c1 := cellW_of (cs := [.int .i64 (x.1 : Int), .int .i64 (x.2 : Int)]) (i := 1) NW rfl
  have SM : ∀ k, k ≠ w.heap.size → ((w2.setCell ⟨w.heap.size, 0, none⟩ (.int .i64 (x.1 : Int))).setCell ⟨w.heap.size, 1, none⟩ (.int .i64 (x.2 : Int))).heap[k]? = w2.heap[k]? := fun k hk => (block_setF (p := ⟨w.heap.size, 1, none⟩) hk).trans (block_setF (p := ⟨w.heap.size, 0, none⟩) hk)
  refine bodyPost_ret (v := runv x) (by simp [results, Tryz.results127, go_sem, c0, c1]) rfl ⟨rfl, HTK.out w2 _ HT2.out SM (by simp), HKP.out w2 _ HK2.out SM ?_⟩
  exact ((Below.refl _ _).setCell (p := ⟨w.heap.size, 0, none⟩) (Nat.le_refl _) _).setCell (p := ⟨w.heap.size, 1, none⟩) (Nat.le_refl _) _
end Go.Proofs.YthfhjgkpabkeaaaGreat.walks
namespace Go.Proofs.YthfhjgkpabkeaaaGreat.walks
open Go.RowKit rows heads words region
set_option maxRecDepth 100000
set_option linter.unusedVariables false
set_option linter.unusedSimpArgs false

/-- How many are in the box. -/
def lenW (w : World) (P : Nat) : Nat :=
  match w.cell? ⟨P, 0, none⟩ with
  | some (.slice _ n _) => n
  | _ => 0
theorem lenW_bag {w : World} {base P : Nat} {hi : Nat → Prop} {R : List Run} (h : Bag w base P hi R) : lenW w P = R.length := by
  obtain ⟨a, c, h1, _⟩ := h.ex
  unfold lenW
  rw [(box_cell h1).1]
theorem fit_of {xs : List Int} {f t s : Int} {o : Option Run} (h : IsFit (frees xs f t) s o) (hs : 2 ≤ s ∧ s % 2 = 0) : bestFit xs f t s = fitV o := by
  unfold bestFit
  rw [if_pos hs, isFit_unique h (fitL_is s _ (frees_rise xs f t))]
theorem bag_new {w : World} : Bag ((w.alloc (.cells #[] 81)).alloc (.cells #[.slice (some ⟨w.heap.size, 0, none⟩) 0 0] 132)) w.heap.size (w.heap.size + 1) (fun _ => False) [] := by
  have hs : (w.alloc (.cells #[] 81)).heap.size = w.heap.size + 1 := by simp
  have hb : Below (w.heap.size + 1) (w.alloc (.cells #[] 81)) ((w.alloc (.cells #[] 81)).alloc (.cells #[.slice (some ⟨w.heap.size, 0, none⟩) 0 0] 132)) := (Below.refl _ _).alloc (by omega) _
  refine ⟨⟨some ⟨w.heap.size, 0, none⟩, 0, ?_, ownF_below (ownF_nothing w) (hb.mono (by omega)), fun k hk => ⟨fun e => e, ?_⟩⟩, by omega, fun e => e, fun k e => e.elim, by simp⟩
  · have := heap_alloc_new (w.alloc (.cells #[] 81)) (.cells #[.slice (some ⟨w.heap.size, 0, none⟩) 0 0] 132)
    rw [hs] at this
    exact this
  · have : w.heap.size = k := Option.some.inj hk
    omega
/-- Blocks that came later are left alone as well. -/
theorem Bag.keep {w w' : World} {base P : Nat} {R : List Run} (h : Bag w base P (fun _ => False) R) (hb : Below w.heap.size w w') : Bag w' base P (fun k => w.heap.size ≤ k ∧ k < w'.heap.size) R := by
  obtain ⟨a, c, h1, h2, h3⟩ := h.ex
  refine ⟨⟨a, c, (hb.block P (lt_of_block h1)).trans h1, ownF_below h2 hb, fun k hk => ⟨fun e => ?_, (h3 k hk).2⟩⟩, h.le, fun e => ?_, fun k hk => hk.2, h.len⟩
  · have := (ownF_lt h2 k hk).2
    omega
  · have := h.pw
    omega
set_option maxHeartbeats 16000000 in
theorem implBestFit (w : World) (v : Value) (xs : List Int) (f : Int) (t : Int) (s : Int) (h : IntsAt w v xs) (hl : xs.length ≤ 1048576) (ha : AllI xs) (hf : I64 f) (ht : I64 t) (hs : I64 s) :
    Calls Tryz.prog 101 #[v, .int .i64 f, .int .i64 t, .int .i64 s] w fun e w' => e = .returned (.int .i64 (bestFit xs f t s)) ∧ Below w.heap.size w w' := by
  have CS := chunkSizeOk_any s w hs
  obtain ⟨a, cap, rfl, hlc, hcm, _, _⟩ := id h
  cases d : csOk s
  · have e : bestFit xs f t s = -1 := by
      unfold bestFit
      rw [if_neg]
      intro e
      have : csOk s = true := by simp [csOk]; omega
      rw [this] at d; cases d
    rw [e]
    rw [d] at CS
    clear d e
    go_enter Tryz.func101, Tryz.ntmps101
    go_wp2_with (go_at_call 124; refine CS.mono ?_; clear CS; rintro e w1 ⟨rfl, hw1⟩; rw [hw1]; clear hw1 w1)
    go_ret
    exact ⟨rfl, Below.refl _ _⟩
  · have hs2 : 2 ≤ s ∧ s % 2 = 0 := by simpa [csOk] using d
    rw [d] at CS
    have HFIT : Hid (∀ o, IsFit (frees xs f t) s o → bestFit xs f t s = fitV o) := fun o ho => fit_of ho hs2
    obtain ⟨A, hA⟩ : ∃ A, bestFit xs f t s = A := ⟨_, rfl⟩
    rw [hA] at HFIT
    rw [hA]
    have B1 : Below w.heap.size w ((w.alloc (.cells #[] 81)).alloc (.cells #[.slice (some ⟨w.heap.size, 0, none⟩) 0 0] 132)) := ((Below.refl _ _).alloc (Nat.le_refl _) _).alloc (by simp) _
    have FI := implFreeIn _ _ xs f t (intsAt_below h B1) hl ha hf ht
    have HBG : Hid _ := bag_new (w := w)
    have HB1 : Hid _ := B1
    have HM : ∀ x ∈ freeIn xs f t, _ := fun x hx => free_size hx
    have HG : ∀ k, k < (freeIn xs f t).length → _ := fun k hk => frees_get (xs := xs) (f := f) (t := t) hk
    have hLL : (frees xs f t).length = (freeIn xs f t).length := by unfold frees; rw [List.length_map]
    have hln : (freeIn xs f t).length ≤ 1000 := (freeIn_length xs f t).1
    obtain ⟨L, hL⟩ : ∃ L, freeIn xs f t = L := ⟨_, rfl⟩
    obtain ⟨RL, hRL⟩ : ∃ RL, frees xs f t = RL := ⟨_, rfl⟩
    rw [hL] at FI HM HG hLL hln
    rw [hRL] at HG hLL HFIT
    have HMH : Hid _ := HM
    have HGH : Hid _ := HG
    have HLL : Hid _ := hLL
    have HCH : Hid (∀ (W : World) (j : Nat), Below w.heap.size w W → okAt xs j = true → Calls Tryz.prog 102 #[.slice a xs.length cap, .int .i64 j] W fun e w' => e = .returned (.int .i64 ((chunk xs j).toNat : Int)) ∧ Below W.heap.size W w') := fun W j hW hm => by
      have := implChunkAt W _ xs j (intsAt_below h hW) hl ha ⟨by omega, by have := hm; simp only [okAt, Bool.and_eq_true] at this; have := atOk_true this.2; omega⟩
      rw [chunkAt_in hm, ← chunk_nat xs j] at this
      exact this
    clear hL hRL hA HM HG hLL h ha hf ht B1 d
    go_enter Tryz.func101, Tryz.ntmps101
    go_upto_region 4 with (go_at_call 124; refine CS.mono ?_; clear CS; rintro e w1 ⟨rfl, hw1⟩; rw [hw1]; clear hw1 w1)
    have hsX : ((w.alloc (.cells #[] 81)).alloc (.cells #[.slice (some ⟨w.heap.size, 0, none⟩) 0 0] 132)).heap.size = w.heap.size + 2 := by simp
    have HSX : Hid _ := hsX
    clear hsX
    generalize (w.alloc (.cells #[] 81)).alloc (.cells #[.slice (some ⟨w.heap.size, 0, none⟩) 0 0] 132) = X at *
    go_wp2_with (go_at_call 120; refine FI.mono ?_; clear FI; rintro e w1 ⟨vl, rfl, OL, b1⟩; have HOL : Hid _ := own_ints OL; have HIN : Hid _ := own_in OL; have HBG1 : Hid _ := HBG.out.keep b1; have HB2 : Hid _ := HB1.out.trans (b1.mono HB1.out.size); obtain ⟨la, lcap, rfl, llc, lcm, _, _⟩ := own_ints OL; clear OL b1 HBG)
    go_loopw [22] (fun q wr => ∃ (k : Nat) (R : List Run), q = .int .i64 (k : Int) ∧ k ≤ L.length ∧ Bag wr w.heap.size (w.heap.size + 1) (fun k => X.heap.size ≤ k ∧ k < w1.heap.size) R ∧ R.length = k ∧ HeapF R R.length ∧ (∀ y, y ∈ R ↔ y ∈ RL.take k) ∧ Kp w.heap.size (w.heap.size + 1) (fun k => X.heap.size ≤ k ∧ k < w1.heap.size) w1 wr) (fun q _ => L.length - (intOf q).toNat)
    case atStart => exact ⟨0, [], rfl, Nat.zero_le _, HBG1.out, rfl, fun k _ hk => by simp at hk, fun y => by simp, Kp.refl _ _ _ _⟩
    case round =>
      obtain ⟨k, R, rfl, hk, hB, hRl, hH, hm, hK⟩ := hrel
      clear HBG1
      have HBB : Hid _ := hB
      have HRL : Hid _ := hRl
      have HH : Hid _ := hH
      have HM : Hid _ := hm
      have HK : Hid _ := hK
      by_cases hlt : k < L.length
      · have hlt' : (k : Int) < (L.length : Int) := by omega
        obtain ⟨la', lcap', e', _, _, _, hcy⟩ := HOL.out
        injection e' with e1 e2 e3
        subst e1 e3
        obtain ⟨lb, loff, rfl, _, hcy⟩ := hcy (by omega)
        have c0 := hcy k hlt
        have c1 : wr.cell? ⟨lb, loff + k, none⟩ = some (.int .i64 (L.getD k 0)) := by
          rw [← c0]
          unfold World.cell?
          rw [hK.mid lb (HIN.out lb rfl)]
        have hgk := HGH.out k hlt
        obtain ⟨j, hj, hjl, hjw, hjo, _, hjc⟩ := HMH.out (L.getD k 0) (by rw [List.getD_eq_getElem?_getD, List.getElem?_eq_getElem hlt]; exact List.getElem_mem hlt)
        rw [hj] at c1 hgk
        unfold runOf at hgk
        rw [Int.toNat_natCast] at hgk
        have CH := HCH.out wr j (HB2.out.trans hK.below) hjo
        obtain ⟨n, hn⟩ : ∃ n, (chunk xs j).toNat = n := ⟨_, rfl⟩
        rw [hn] at CH hgk hjc
        have HPU : Hid (∀ V, Below wr.heap.size wr V → Calls Tryz.prog 125 #[.iface 134 (.pointer (some ⟨w.heap.size + 1, 0, none⟩)), .iface 81 (.agg #[.int .i64 (j : Int), .int .i64 (n : Int)])] V fun e w' => e = .returned (.tuple #[]) ∧ ∃ (R : List Run), Bag w' w.heap.size (w.heap.size + 1) (fun k => X.heap.size ≤ k ∧ k < w1.heap.size) R ∧ R.length = k + 1 ∧ HeapF R R.length ∧ (∀ y, y ∈ R ↔ y ∈ RL.take (k + 1)) ∧ Kp w.heap.size (w.heap.size + 1) (fun k => X.heap.size ≤ k ∧ k < w1.heap.size) w1 w') := fun V hV => by
          obtain ⟨B5, K5⟩ := hB.grow hV
          refine (heapPush_any B5 hH (by omega) (j, n)).mono ?_
          rintro e w' ⟨rfl, R', h1, h2, h3, h4, h5⟩
          refine ⟨rfl, R', h1, by omega, h3, fun y => (h4 y).trans ?_, hK.trans (K5.trans h5)⟩
          have hkR : k < RL.length := by rw [HLL.out]; exact hlt
          have e4 : RL.take (k + 1) = RL.take k ++ [(j, n)] := by
            rw [List.take_add_one, List.getElem?_eq_getElem hkR]
            have : RL[k] = (j, n) := by
              rw [← hgk]
              unfold rd
              rw [List.getD_eq_getElem?_getD, List.getElem?_eq_getElem hkR]
              rfl
            rw [this]
            rfl
          rw [e4, List.mem_append, List.mem_append, hm y]
        clear hB hH hm hK hRl hcy c0 hgk hjw hn hj hjo
        go_wp2_with (first
          | (go_at_call 102; refine CH.mono ?_; clear CH; rintro e w5 ⟨rfl, b5⟩; have PU := HPU.out w5 b5; clear b5 HPU c1)
          | (go_at_call 125; refine PU.mono ?_; clear PU; rintro e w6 ⟨rfl, H6⟩; have HH6 : Hid _ := H6; clear H6))
        obtain ⟨R', h1, h2, h3, h4, h5⟩ := HH6.out
        exact ⟨⟨k + 1, R', by go_num, by omega, h1, h2, h3, h4, h5⟩, by simp [intOf]; omega⟩
      · have hkL : k = L.length := by omega
        have hlt' : ¬ (k : Int) < (L.length : Int) := by omega
        have HPF : Hid (PopF RL R s) := by
          have e : RL.take k = RL := by rw [hkL, ← HLL.out]; exact List.take_length
          rw [e] at hm
          exact ⟨fun r hr => (hm r).1 hr, fun r hr _ => (hm r).2 hr, hH⟩
        have HBW : Hid _ := HB2.out.trans hK.below
        clear hB hH hm hK hRl HRL HM HK HH hkL
        go_wp2_with fail
        go_loopw [8] (fun q wz => q = .int .i64 0 ∧ ∃ (R : List Run), Bag wz w.heap.size (w.heap.size + 1) (fun k => X.heap.size ≤ k ∧ k < w1.heap.size) R ∧ PopF RL R s ∧ Below w.heap.size w wz) (fun _ wz => lenW wz (w.heap.size + 1))
        case atStart => exact ⟨rfl, R, HBB.out, HPF.out, HBW.out⟩
        case round =>
          obtain ⟨rfl, R2, hB, hP, hW⟩ := hrel
          clear HBB HPF HBW
          obtain ⟨a2, c2, hx, hO, hkk⟩ := hB.ex
          have z0 := (box_cell hx).1
          have LN := lenF_any a2 R2.length c2 wr hB.len
          have hlw := lenW_bag hB
          have HW : Hid _ := hW
          have hlen2 := hB.len
          cases hR : R2.length with
          | zero =>
            have HE : Hid (A = -1) := HFIT.out none (hP.none hR)
            rw [hR] at z0 LN
            clear hB hP hW hx hO hkk hlw hR
            go_wp2_with (go_at_call 126; refine LN.mono ?_; clear LN; rintro e w2 ⟨rfl, hw2⟩; rw [hw2]; clear hw2 w2)
            go_ret
            exact ⟨by rw [HE.out]; rfl, HW.out⟩
          | succ m =>
            have TL := takeLeast_any hB hR (hR ▸ hP.heap)
            have HSOME : Hid (s ≤ ((rd R2 0).2 : Int) → A = ((rd R2 0).1 : Int)) := fun e => HFIT.out (some (rd R2 0)) (hP.some (by omega) e)
            have HNEXT : Hid (¬ s ≤ ((rd R2 0).2 : Int) → ∀ V V', Taken V w.heap.size (w.heap.size + 1) (fun k => X.heap.size ≤ k ∧ k < w1.heap.size) m R2 → Kp w.heap.size (w.heap.size + 1) (fun k => X.heap.size ≤ k ∧ k < w1.heap.size) wr V → Below V.heap.size V V' → (∃ (R : List Run), Bag V' w.heap.size (w.heap.size + 1) (fun k => X.heap.size ≤ k ∧ k < w1.heap.size) R ∧ PopF RL R s ∧ Below w.heap.size w V') ∧ lenW V' (w.heap.size + 1) < lenW wr (w.heap.size + 1)) := fun e V V' ⟨R', t1, t2, t3, t4, t5⟩ hk hv => by
              obtain ⟨B5, K5⟩ := t1.grow hv
              have el : (R'.take m).length = m := by rw [List.length_take]; omega
              refine ⟨⟨R'.take m, B5, hP.next hR e t2 t4 t5 t3, hW.trans (hk.below.trans K5.below)⟩, ?_⟩
              rw [hlw, lenW_bag B5, el, hR]
              omega
            have HBK : Hid (∀ V, Kp w.heap.size (w.heap.size + 1) (fun k => X.heap.size ≤ k ∧ k < w1.heap.size) wr V → Below w.heap.size w V) := fun V hk => hW.trans hk.below
            rw [hR] at z0 LN
            have hml : m + 1 ≤ 1048576 := by omega
            obtain ⟨x, hx0⟩ : ∃ x, rd R2 0 = x := ⟨_, rfl⟩
            rw [hx0] at TL HSOME HNEXT
            unfold runv at TL
            clear hB hP hW hx hO hkk hlw hx0
            obtain ⟨xa, xn⟩ := x
            simp only at TL HSOME HNEXT
            by_cases hsz : s ≤ (xn : Int)
            · have hsz' : (xn : Int) ≥ s := hsz
              have HE : Hid (A = (xa : Int)) := HSOME.out hsz
              clear HSOME HNEXT
              go_upto_region 11 with (first
                | (go_at_call 126; refine LN.mono ?_; clear LN; rintro e w2 ⟨rfl, hw2⟩; rw [hw2]; clear hw2 w2)
                | (go_at_call 127; refine TL.mono ?_; clear TL z0; rintro e w3 ⟨rfl, T3, K3⟩; have HK3 : Hid _ := HBK.out w3 K3; clear T3 K3 HBK))
              obtain ⟨y0, y1⟩ := fc_cells (heap_alloc_new w3 (fcb xa xn))
              have HB4 : Hid _ := HK3.out.alloc HK3.out.size (fcb xa xn)
              generalize w3.alloc (fcb xa xn) = Y at *
              go_wp2_with fail
              go_ret
              exact ⟨by rw [HE.out]; rfl, HB4.out⟩
            · have hsz' : ¬ (xn : Int) ≥ s := hsz
              have HNX : Hid _ := HNEXT.out hsz
              clear HSOME HNEXT
              go_upto_region 11 with (first
                | (go_at_call 126; refine LN.mono ?_; clear LN; rintro e w2 ⟨rfl, hw2⟩; rw [hw2]; clear hw2 w2)
                | (go_at_call 127; refine TL.mono ?_; clear TL z0; rintro e w3 ⟨rfl, T3, K3⟩; have HT3 : Hid _ := And.intro T3 K3; clear T3 K3 HBK))
              obtain ⟨y0, y1⟩ := fc_cells (heap_alloc_new w3 (fcb xa xn))
              have HB4 : Hid (Below w3.heap.size w3 (w3.alloc (fcb xa xn))) := (Below.refl _ _).alloc (Nat.le_refl _) _
              generalize w3.alloc (fcb xa xn) = Y at *
              go_wp2_with fail
              obtain ⟨q1, q2⟩ := HNX.out w3 Y HT3.out.1 HT3.out.2 HB4.out
              exact ⟨⟨rfl, q1⟩, q2⟩
end Go.Proofs.YthfhjgkpabkeaaaGreat.walks
