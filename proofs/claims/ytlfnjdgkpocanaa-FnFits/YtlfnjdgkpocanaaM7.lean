/-
  Chapter 8 as the program has it: container/heap.Push and Pop over free chunks. Chapter 8 as the program has it: the least of the free chunks taken out.
-/
import Derived.Test.YtlfnjdgkpocanaaFitI6
namespace Go.Proofs.Ytlfnjdgkpocanaa.walks
open Go.RowKit rows heads words region
set_option maxRecDepth 100000
set_option linter.unusedVariables false
set_option linter.unusedSimpArgs false

abbrev runv (x : Run) : Value := .agg #[.int .i64 (x.1 : Int), .int .i64 (x.2 : Int)]
theorem Bag.pushed {w w' : World} {base P c : Nat} {hi : Nat → Prop} {a : Option Addr} {R : List Run} {x : Run} {v' : Value} (h : Bag w base P hi R) (hk : ∀ k, (Value.slice a R.length c).ownBlock = some k → ¬ hi k ∧ k ≠ P) (hbk : ∀ k, (Value.slice a R.length c).ownBlock = some k → base ≤ k) (hA : PuA w w' base P a R.length c R x v') (hX : Box w' P v') (hl : R.length < 1048576) : Bag w' base P hi (R ++ [x]) ∧ Kp base P hi w w' := by
  have h1 := h.le
  have h3 := h.pw
  obtain ⟨a', c', e⟩ := ownF_slice hA.own
  refine ⟨⟨⟨a', c', by rw [← e]; exact hX, by rw [← e]; exact hA.own, fun k e2 => ?_⟩, h1, h.nP, fun k hk => Nat.lt_of_lt_of_le (h.sw k hk) hA.fr.size, by rw [List.length_append, List.length_singleton]; omega⟩, ⟨hA.fr.os, hA.fr.tape, hA.fr.output, hA.fr.size, fun k hkb => ?_⟩, fun k p1 => ?_⟩
  · rw [← e] at e2
    rcases hA.at' with q | ⟨k', q, hk'⟩
    · exact hk k (q ▸ e2)
    · rw [q] at e2
      injection e2 with e2
      exact ⟨fun e3 => by have := h.sw k e3; omega, by omega⟩
  · exact hA.fr.block k (by omega) (by omega) (fun e2 => by have := hbk k e2; omega)
  · exact hA.fr.block k (h.sw k p1) (fun e2 => h.nP (e2 ▸ p1)) (fun e2 => (hk k e2).1 p1)
set_option maxHeartbeats 8000000 in
theorem heapPush_any {w : World} {base P : Nat} {hi : Nat → Prop} {R : List Run} (hB : Bag w base P hi R) (hH : HeapF R R.length) (hl : R.length < 1048576) (x : Run) :
    Calls Try.prog 23 #[bagv P, .iface 47 (runv x)] w fun e w' => e = .returned (.tuple #[]) ∧ ∃ R', Bag w' base P hi R' ∧ R'.length = R.length + 1 ∧ HeapF R' R'.length ∧ (∀ y, y ∈ R' ↔ y ∈ R ++ [x]) ∧ Kp base P hi w w' := by
  obtain ⟨a, c, hx, hO, hk⟩ := hB.ex
  have PU := (pushM_any hx hO (fun e => (hk P e).2 rfl) hl hB.le x).mono (fun e w' (hh : e = .returned (.tuple #[]) ∧ ∃ v', PuA w w' base P a R.length c R x v' ∧ Box w' P v') => (⟨hh.1, by
    obtain ⟨v', hA, hX⟩ := hh.2
    exact hB.pushed hk (fun k e => (ownF_lt hO k e).1) hA hX hl⟩ : e = .returned (.tuple #[]) ∧ Bag w' base P hi (R ++ [x]) ∧ Kp base P hi w w'))
  have MP := mPush (w := w) (P := P)
  have HUP : Hid (∀ V, Bag V base P hi (R ++ [x]) → (∃ v, V.cell? ⟨P, 0, none⟩ = some v ∧ ∃ a c, v = .slice a (R.length + 1) c) ∧ Calls Try.prog 42 #[.iface 45 (.pointer (some ⟨P, 0, none⟩)), .int .i64 (R.length : Int)] V fun e w' => e = .returned (.tuple #[]) ∧ ∃ R', Bag w' base P hi R' ∧ R'.length = (R ++ [x]).length ∧ HeapF R' R'.length ∧ (∀ y, y ∈ R' ↔ y ∈ R ++ [x]) ∧ Kp base P hi V w') := fun V hV => by
    obtain ⟨a', c', b', _⟩ := hV.ex
    rw [List.length_append, List.length_singleton] at b'
    exact ⟨⟨_, (box_cell b').1, _, _, rfl⟩, up_any hV (up_push hH x)⟩
  have i1 : (R.length : Int) + 1 - 1 = (R.length : Int) := by omega
  obtain ⟨n, hn⟩ : ∃ n, R.length = n := ⟨_, rfl⟩
  have HN : Hid _ := hn
  simp only [hn] at HUP i1 hl
  clear hB hH hx hO hk hn
  unfold bagv runv
  unfold runv at *
  go_enter Try.func23, Try.ntmps23
  go_wp2_with (first
    | (go_at_call 96; refine PU.mono ?_; clear PU MP; rintro e w1 ⟨rfl, B1, K1⟩; obtain ⟨⟨v1, z1, a1, c1, rfl⟩, UP⟩ := HUP.out w1 B1; have ML := mLen z1; have LN := lenF_any a1 (n + 1) c1 w1 (by omega); have HK1 : Hid _ := K1; clear B1 K1 HUP)
    | (go_at_call 24; refine LN.mono ?_; clear LN ML z1; rintro e w2 ⟨rfl, hw2⟩; rw [← hw2] at UP HK1; clear hw2)
    | (go_at_call 42; refine UP.mono ?_; clear UP; rintro e w3 ⟨rfl, H3⟩; have HH3 : Hid _ := H3; clear H3))
  obtain ⟨R', h1, h2, h3, h4, h5⟩ := HH3.out
  exact bodyPost_end (results_none rfl _ _ _) rfl ⟨rfl, R', h1, by rw [h2]; simp, h3, h4, HK1.out.trans h5⟩
end Go.Proofs.Ytlfnjdgkpocanaa.walks
namespace Go.Proofs.Ytlfnjdgkpocanaa.walks
open Go.RowKit rows heads words region
set_option maxRecDepth 100000
set_option linter.unusedVariables false
set_option linter.unusedSimpArgs false

/-- What is so behind the least's being taken. -/
def Taken (w' : World) (base P : Nat) (hi : Nat → Prop) (m : Nat) (R : List Run) : Prop := ∃ R', Bag w' base P hi (R'.take m) ∧ R'.length = m + 1 ∧ HeapF R' m ∧ (∀ y, y ∈ R' ↔ y ∈ R) ∧ rd R' m = rd R 0
set_option maxHeartbeats 8000000 in
theorem heapPop_any {w : World} {base P m : Nat} {hi : Nat → Prop} {R : List Run} (hB : Bag w base P hi R) (hl : R.length = m + 1) (hH : HeapF R (m + 1)) :
    Calls Try.prog 43 #[bagv P] w fun e w' => e = .returned (.iface 47 (runv (rd R 0))) ∧ Taken w' base P hi m R ∧ Kp base P hi w w' := by
  obtain ⟨g, c, hx, hO, hg, hbg⟩ := hB.open' (by omega)
  have hlen := hB.len
  have z0 := (box_cell hx).1
  have ML := mLen z0
  have MS := mSwap z0
  have LN := lenF_any (some ⟨g, 0, none⟩) R.length c w hB.len
  have SW := (swap_any hO (i := 0) (j := m) (by omega) (by omega) hB.len).mono (fun e w' (hh : e = .returned (.tuple #[]) ∧ OwnF w' base (.slice (some ⟨g, 0, none⟩) R.length c) (swp R 0 m) ∧ Below base w w' ∧ ∀ k, k ≠ g → w'.heap[k]? = w.heap[k]?) => (⟨hh.1, hB.swapped hx hg hh.2.1 hh.2.2.1 (fun q hq _ => hh.2.2.2 q hq)⟩ : e = .returned (.tuple #[]) ∧ Bag w' base P hi (swp R 0 m) ∧ Kp base P hi w w'))
  have HDN : Hid (∀ V, Bag V base P hi (swp R 0 m) → Calls Try.prog 56 #[.iface 45 (.pointer (some ⟨P, 0, none⟩)), .int .i64 0, .int .i64 (m : Int)] V fun e w' => (∃ b, e = .returned (.bool b)) ∧ ∃ R', Bag w' base P hi R' ∧ R'.length = (swp R 0 m).length ∧ HeapF R' m ∧ (∀ x, x ∈ R' ↔ x ∈ swp R 0 m) ∧ (∀ k, m ≤ k → rd R' k = rd (swp R 0 m) k) ∧ Kp base P hi V w') := fun V hV => down_any hV (down_pop hH hl) (Nat.zero_le _)
  have HPM : Hid (∀ V R', Bag V base P hi R' → R'.length = m + 1 → Calls Try.prog 95 #[.pointer (some ⟨P, 0, none⟩)] V fun e w' => e = .returned (.iface 47 (runv (rd R' m))) ∧ Bag w' base P hi (R'.take m) ∧ Kp base P hi V w') := fun V R' hV hl' => by
    obtain ⟨g', c', hx', hO', hg', hbg'⟩ := hV.open' (by omega)
    have h1 := hV.le
    have h3 := hV.pw
    rw [hl'] at hx' hO'
    refine (popM_any hx' hO' hg'.2 (by omega)).mono ?_
    rintro e w' ⟨rfl, hb, ho, fr⟩
    have el : (R'.take m).length = m := by rw [List.length_take]; omega
    refine ⟨rfl, ⟨⟨some ⟨g', 0, none⟩, c', by rw [el]; exact hb, by rw [el]; exact ho, fun k hk => ?_⟩, h1, hV.nP, fun k hk => Nat.lt_of_lt_of_le (hV.sw k hk) fr.size, by rw [el]; omega⟩, ⟨fr.os, fr.tape, fr.output, fr.size, fun k hk => fr.block k (by omega) (by omega) (by simp)⟩, fun k p1 => fr.block k (hV.sw k p1) (fun e => hV.nP (e ▸ p1)) (by simp)⟩
    have : g' = k := Option.some.inj hk
    exact this ▸ hg'
  have i1 : (R.length : Int) - 1 = (m : Int) := by omega
  have HFIN : Hid (∀ R', R'.length = (swp R 0 m).length → (∀ x, x ∈ R' ↔ x ∈ swp R 0 m) → (∀ k, m ≤ k → rd R' k = rd (swp R 0 m) k) → R'.length = m + 1 ∧ (∀ y, y ∈ R' ↔ y ∈ R) ∧ rd R' m = rd R 0) := fun R' h1 h2 h3 => by
    rw [swp_len] at h1
    refine ⟨by omega, fun y => (h2 y).trans (swp_mem (by omega) (by omega) y), ?_⟩
    rw [h3 m (Nat.le_refl _), swp_get (by omega) (by omega), if_pos rfl]
  have hml : m ≤ 1048576 := by omega
  have MP := fun V => mPop (w := V) (P := P)
  clear hB hH hx hO hg hbg z0
  obtain ⟨N, hN⟩ : ∃ N, R.length = N := ⟨_, rfl⟩
  rw [hN] at ML MS LN SW hlen i1
  clear hN hl
  unfold bagv
  go_enter Try.func43, Try.ntmps43
  go_wp2_with (first
    | (go_at_call 24; refine LN.mono ?_; clear LN ML; rintro e w2 ⟨rfl, hw2⟩; rw [hw2]; clear hw2 w2)
    | (go_at_call 91; refine SW.mono ?_; clear SW MS; rintro e w3 ⟨rfl, B3, K3⟩; have DN := HDN.out w3 B3; have HK3 : Hid _ := K3; clear B3 K3 HDN)
    | (go_at_call 56; refine DN.mono ?_; clear DN; rintro e w4 ⟨⟨b, rfl⟩, R', B4, h1, h2, h3, h4, K4⟩; obtain ⟨q1, q2, q3⟩ := HFIN.out R' h1 h3 h4; have PM := HPM.out w4 R' B4 q1; rw [q3] at PM; have HK4 : Hid _ := HK3.out.trans K4; have HH4 : Hid _ := And.intro h2 (And.intro q1 (And.intro q2 q3)); have MP4 := MP w4; clear B4 h1 h2 h3 h4 K4 q1 q2 q3 HFIN HPM)
    | (go_at_call 95; refine PM.mono ?_; clear PM; rintro e w5 ⟨rfl, B5, K5⟩; have HB5 : Hid _ := B5; have HK5 : Hid _ := HK4.out.trans K5; clear B5 K5))
  go_ret
  exact ⟨rfl, ⟨R', HB5.out, HH4.out.2.1, HH4.out.1, HH4.out.2.2.1, HH4.out.2.2.2⟩, HK5.out⟩
set_option maxHeartbeats 4000000 in
theorem takeLeast_any {w : World} {base P m : Nat} {hi : Nat → Prop} {R : List Run} (hB : Bag w base P hi R) (hl : R.length = m + 1) (hH : HeapF R (m + 1)) :
    Calls Try.prog 25 #[.pointer (some ⟨P, 0, none⟩)] w fun e w' => e = .returned (runv (rd R 0)) ∧ Taken w' base P hi m R ∧ Kp base P hi w w' := by
  have B1 : Below w.heap.size w (w.alloc (fcb 0 0)) := (Below.refl _ _).alloc (Nat.le_refl _) _
  obtain ⟨hB1, K1⟩ := hB.grow B1
  have hPw := hB.pw
  have hbw := hB.base
  have hMo := hB1.more (B := w.heap.size) (by simp) (by omega) (fun a c hb e => by
    obtain ⟨a', c', q1, q2, q3⟩ := hB.ex
    have q1' : Box (w.alloc (fcb 0 0)) P _ := (B1.block P hPw).trans q1
    have e2 : Value.slice a R.length c = .slice a' R.length c' := by
      have := hb.symm.trans q1'
      injection this with this
      injection this with this
      simpa using this
    rw [e2] at e
    have := (ownF_lt q2 _ e).2
    omega)
  have PO := (heapPop_any hMo hl hH).mono (fun e w' (hh : e = .returned (.iface 47 (runv (rd R 0))) ∧ Taken w' base P (fun k => hi k ∨ k = w.heap.size) m R ∧ Kp base P (fun k => hi k ∨ k = w.heap.size) (w.alloc (fcb 0 0)) w') => (⟨hh.1, hh.2.1, K1.trans hh.2.2.less, (hh.2.2.mid _ (.inr rfl)).trans (heap_alloc_new w (fcb 0 0))⟩ : e = .returned (.iface 47 (runv (rd R 0))) ∧ Taken w' base P (fun k => hi k ∨ k = w.heap.size) m R ∧ Kp base P hi w w' ∧ w'.heap[w.heap.size]? = some (fcb 0 0)))
  obtain ⟨x, hx⟩ : ∃ x, rd R 0 = x := ⟨_, rfl⟩
  rw [hx] at PO
  rw [hx]
  have HX : Hid _ := hx
  have HTK : Hid (∀ W W' : World, Taken W base P (fun k => hi k ∨ k = w.heap.size) m R → (∀ k, k ≠ w.heap.size → W'.heap[k]? = W.heap[k]?) → W'.heap.size = W.heap.size → Taken W' base P hi m R) := fun W W' ⟨R', hb, q1, q2, q3, q4⟩ hs hz => by
    refine ⟨R', ?_, q1, q2, q3, q4⟩
    obtain ⟨a', c', p1, p2, p3⟩ := hb.ex
    refine ⟨⟨a', c', (hs P (by omega)).trans p1, ?_, fun k hk => ⟨fun e => (p3 k hk).1 (.inl e), (p3 k hk).2⟩⟩, hb.le, fun e => hb.nP (.inl e), fun k hk => by rw [hz]; exact hb.sw k (.inl hk), hb.len⟩
    obtain ⟨h0, ⟨h1, h2⟩ | ⟨g', cap, cur, h1, hg, hh, hle, hmx, hs', ht⟩⟩ := p2
    · exact ⟨h0, .inl ⟨h1, h2⟩⟩
    · exact ⟨h0, .inr ⟨g', cap, cur, h1, hg, (hs g' (fun e => (p3 g' (by rw [h1]; rfl)).1 (.inr e))).trans hh, hle, hmx, hs', ht⟩⟩
  have HKP : Hid (∀ W W' : World, Kp base P hi w W → (∀ k, k ≠ w.heap.size → W'.heap[k]? = W.heap[k]?) → Below w.heap.size W W' → Kp base P hi w W') := fun W W' hk hs hb => ⟨hk.below.trans (hb.mono hbw), fun k e => (hs k (by have := hB.sw k e; omega)).trans (hk.mid k e)⟩
  clear hB hB1 K1 B1 hMo hH hl hPw hx
  unfold bagv at PO
  go_enter Try.func25, Try.ntmps25
  go_wp2_with (go_at_call 43; refine PO.mono ?_; clear PO; rintro e w2 ⟨rfl, T2, K2, N2⟩; have as2 := asF (runv x) w2; have HT2 : Hid _ := T2; have HK2 : Hid _ := K2; have HN2 : Hid _ := N2; have f0 : w2.frozen? ⟨w.heap.size, 0, none⟩ = false := (by simp [World.frozen?, N2, fcb]); have f1 : w2.frozen? ⟨w.heap.size, 1, none⟩ = false := (by simp [World.frozen?, N2, fcb]); have x0 : w2.cell? ⟨w.heap.size, 0, none⟩ = some (.int .i64 0) := (by simp [World.cell?, N2, fcb]); have x1 : w2.cell? ⟨w.heap.size, 1, none⟩ = some (.int .i64 0) := (by simp [World.cell?, N2, fcb]); clear T2 K2 N2)
  have NW : ((w2.setCell ⟨w.heap.size, 0, none⟩ (.int .i64 (x.1 : Int))).setCell ⟨w.heap.size, 1, none⟩ (.int .i64 (x.2 : Int))).heap[w.heap.size]? = some (fcb x.1 x.2) := by
    simp [World.setCell, Array.getElem?_modify, HN2.out, fcb]
  have c0 := cellW_of (cs := [.int .i64 (x.1 : Int), .int .i64 (x.2 : Int)]) (i := 0) NW rfl
  have c1 := cellW_of (cs := [.int .i64 (x.1 : Int), .int .i64 (x.2 : Int)]) (i := 1) NW rfl
  have SM : ∀ k, k ≠ w.heap.size → ((w2.setCell ⟨w.heap.size, 0, none⟩ (.int .i64 (x.1 : Int))).setCell ⟨w.heap.size, 1, none⟩ (.int .i64 (x.2 : Int))).heap[k]? = w2.heap[k]? := fun k hk => (block_setF (p := ⟨w.heap.size, 1, none⟩) hk).trans (block_setF (p := ⟨w.heap.size, 0, none⟩) hk)
  refine bodyPost_ret (v := runv x) (by simp [results, Try.results25, go_sem, c0, c1]) rfl ⟨rfl, HTK.out w2 _ HT2.out SM (by simp), HKP.out w2 _ HK2.out SM ?_⟩
  exact ((Below.refl _ _).setCell (p := ⟨w.heap.size, 0, none⟩) (Nat.le_refl _) _).setCell (p := ⟨w.heap.size, 1, none⟩) (Nat.le_refl _) _
end Go.Proofs.Ytlfnjdgkpocanaa.walks
