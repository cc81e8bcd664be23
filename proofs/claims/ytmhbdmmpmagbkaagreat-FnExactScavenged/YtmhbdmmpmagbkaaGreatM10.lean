/-
  Chapter 11 as the program has it: one word led anew where it stands. Chapter 11 as the program has it: the jobs of carryAll, as lists. Chapter 11 as the program has it: the plan of carryAll. Chapter 11 as the program has it: carryAll. Chapter 11 as the program has it: scavenged. Chapter 11 as the program has it: scavenged; Scavenged and Carried. Chapter 11 as the program has it: Scavenged and Carried.
-/
import Derived.Test.YtmhbdmmpmagbkaaGreatScavI9
import Derived.Test.YtmhbdmmpmagbkaaGreatScavS3
namespace Go.Proofs.YtmhbdmmpmagbkaaGreat.hp
open Go.RowKit rows heads words walks region Go.Maps
set_option maxRecDepth 100000
set_option linter.unusedVariables false
set_option linter.unusedSimpArgs false

theorem lead_I64 {H : Hp} {ps : List Int} {s : Sv} {D : Nat → Prop} (I : Inv H ps s D) (R : Rt H ps) {x : Int} (hx : wordIn H ps x = true) (hb : I64 x) : I64 (lead H s x).2 := by
  obtain ⟨hwy, hny⟩ := R.followed hx
  have N := (places_facts R.some').1
  have hlen := N.len
  have h1 := N.half1
  have h2 := N.old1
  have hsum := room_for R.some' I.keys I.room
  have htop := I.top
  have hn2 := nb_le N
  have ht := N.top1
  unfold lead lead1
  cases dA : isA (fol H x)
  · have hxA : isA x = false := by
      cases e : isA x
      · rfl
      · have := fol_isA R _ x (Nat.le_refl _) hx e
        rw [dA] at this; cases this
    have hfx : fol H x = x := fol_stop (by unfold toNote; rw [hxA]; rfl)
    rw [Bool.false_and, if_neg (by decide), hfx]
    exact hb
  · by_cases hup : av (fol H x) < 2 * H.half
    · rw [Bool.true_and, decide_eq_true hup, if_pos rfl]
      cases hlo : look s.went (av (fol H x)).toNat with
      | some t =>
        obtain ⟨i0, hi0, eg⟩ := look_some hlo
        have h3 := I.at' i0 hi0
        rw [eg] at h3
        have h4 := pos_top I hi0
        simp only at h3
        show I64 (4 * (t : Int) + 4)
        unfold I64
        omega
      | none =>
        show I64 (4 * ((nb H + s.top : Nat) : Int) + 4)
        unfold I64
        omega
    · rw [Bool.true_and, decide_eq_false hup, if_neg (by decide)]
      obtain ⟨hm, _⟩ := word_place hwy dA
      obtain ⟨j, ej, hj, _⟩ := (places_plc R.some').1 _ hm
      have e := oa_av dA
      rw [ej, oa_nat (by omega)] at e
      show I64 (fol H x)
      rw [← e]
      unfold I64
      omega
theorem allI_set {xs : List Int} (h : AllI xs) (q : Nat) {y : Int} (hy : I64 y) : AllI (xs.set q y) := fun x hx => by
  rcases List.mem_or_eq_of_mem_set hx with h1 | h1
  · exact h x h1
  · rw [h1]; exact hy
section
variable {wA : World} {H : Hp} {ps : List Int} {b off c1 : Nat} {a2 a3 a4 a5 : Option Addr} {c2 c3 c4 c5 C gr go gm mb : Nat} {W : World} {s : Sv} {rs ms : List Int} {D : Nat → Prop}
theorem Ca.setRow (F : CaF wA H ps b off c1 a2 a3 a4 a5 c2 c3 c4 c5 C gr go gm mb) (K : Ca wA H b off c1 a2 a3 a4 a5 c2 c3 c4 c5 C gr go gm mb W s rs ms) (q : Nat) {y : Int} (hy : I64 y) : Ca wA H b off c1 a2 a3 a4 a5 c2 c3 c4 c5 C gr go gm mb (W.setCell ⟨gr, q, none⟩ (.int .i64 y)) { s with row := s.row.set q y } rs ms := by
  have ch := one_ch W gr q (.int .i64 y)
  obtain ⟨D, hm, hD⟩ := K.map
  refine ⟨(ch.block _ (lt_of_block K.blk) (by have := F.dCR; simp; omega)).trans K.blk, full_set K.row q y, (ch.block _ (lt_of_block K.roots) (by have := F.dRO; simp; omega)).trans K.roots, (ch.block _ (lt_of_block K.mour) (by have := F.dRM; simp; omega)).trans K.mour, K.lr, K.lm, ⟨D, World.ownsMap.kept hm (row := some gr) ⟨rfl, rfl, rfl, ch.size, fun k hk hn => ch.block k hk (fun e => hn (by simp at e; rw [e]))⟩ (by have := F.dRB; simp; omega), hD⟩, K.bel.trans (below_ch ch K.bel.size (fun k hk => by have := F.gR; simp at hk; omega)), allI_set K.num q hy⟩
theorem Ca.setRoot (F : CaF wA H ps b off c1 a2 a3 a4 a5 c2 c3 c4 c5 C gr go gm mb) (K : Ca wA H b off c1 a2 a3 a4 a5 c2 c3 c4 c5 C gr go gm mb W s rs ms) (q : Nat) (y : Int) : Ca wA H b off c1 a2 a3 a4 a5 c2 c3 c4 c5 C gr go gm mb (W.setCell ⟨go, q, none⟩ (.int .i64 y)) s (rs.set q y) ms := by
  have ch := one_ch W go q (.int .i64 y)
  obtain ⟨D, hm, hD⟩ := K.map
  refine ⟨(ch.block _ (lt_of_block K.blk) (by have := F.dCO; simp; omega)).trans K.blk, (ch.block _ (lt_of_block K.row) (by have := F.dRO; simp; omega)).trans K.row, full_set K.roots q y, (ch.block _ (lt_of_block K.mour) (by have := F.dOM; simp; omega)).trans K.mour, by rw [List.length_set]; exact K.lr, K.lm, ⟨D, World.ownsMap.kept hm (row := some go) ⟨rfl, rfl, rfl, ch.size, fun k hk hn => ch.block k hk (fun e => hn (by simp at e; rw [e]))⟩ (by have := F.dOB; simp; omega), hD⟩, K.bel.trans (below_ch ch K.bel.size (fun k hk => by have := F.gO; simp at hk; omega)), K.num⟩
theorem Ca.setMour (F : CaF wA H ps b off c1 a2 a3 a4 a5 c2 c3 c4 c5 C gr go gm mb) (K : Ca wA H b off c1 a2 a3 a4 a5 c2 c3 c4 c5 C gr go gm mb W s rs ms) (q : Nat) (y : Int) : Ca wA H b off c1 a2 a3 a4 a5 c2 c3 c4 c5 C gr go gm mb (W.setCell ⟨gm, q, none⟩ (.int .i64 y)) s rs (ms.set q y) := by
  have ch := one_ch W gm q (.int .i64 y)
  obtain ⟨D, hm, hD⟩ := K.map
  refine ⟨(ch.block _ (lt_of_block K.blk) (by have := F.dCM; simp; omega)).trans K.blk, (ch.block _ (lt_of_block K.row) (by have := F.dRM; simp; omega)).trans K.row, (ch.block _ (lt_of_block K.roots) (by have := F.dOM; simp; omega)).trans K.roots, full_set K.mour q y, K.lr, by rw [List.length_set]; exact K.lm, ⟨D, World.ownsMap.kept hm (row := some gm) ⟨rfl, rfl, rfl, ch.size, fun k hk hn => ch.block k hk (fun e => hn (by simp at e; rw [e]))⟩ (by have := F.dMB; simp; omega), hD⟩, K.bel.trans (below_ch ch K.bel.size (fun k hk => by have := F.gM; simp at hk; omega)), K.num⟩
/-- A Slot of the row that is made. -/
theorem rowWord (F : CaF wA H ps b off c1 a2 a3 a4 a5 c2 c3 c4 c5 C gr go gm mb) (K : Ca wA H b off c1 a2 a3 a4 a5 c2 c3 c4 c5 C gr go gm mb W s rs ms) (I : Inv H ps s D) {q : Nat} {x : Int} (hs : Slot H ps s q x) (hd : ¬ D q) :
    ∃ x', W.cell? ⟨gr, q, none⟩ = some (.int .i64 x') ∧ Calls Tryz.prog 103 #[.pointer (some ⟨C, 0, none⟩), .int .i64 x'] W fun e w' => ∃ y z, e = .returned (.int .i64 y) ∧ w'.cell? ⟨gr, q, none⟩ = some (.int .i64 z) ∧ w'.frozen? ⟨gr, q, none⟩ = false ∧ Ca wA H b off c1 a2 a3 a4 a5 c2 c3 c4 c5 C gr go gm mb (w'.setCell ⟨gr, q, none⟩ (.int .i64 y)) (slotStep H s q) rs ms ∧ Ch [C, gr, mb, go, gm] W (w'.setCell ⟨gr, q, none⟩ (.int .i64 y)) := by
  have R := F.fol.rt
  have hq : q < s.row.length := by rw [I.len]; exact hs.lt
  have hrd := hs.read I hd
  have hm : s.row.getD q 0 ∈ s.row := by rw [List.getD_eq_getElem?_getD, List.getElem?_eq_getElem hq]; exact List.getElem_mem hq
  have hw : wordIn H ps (s.row.getD q 0) = true := by rw [hrd]; exact hs.word
  have hb := K.num _ hm
  refine ⟨_, full_cell K.row hq, (leadAnew_any F K I _ hw hb).mono ?_⟩
  rintro e w' ⟨rfl, K', ch⟩
  have hq' : q < (lead H s (s.row.getD q 0)).1.row.length := by rw [(I.lead R hw).1.len]; exact hs.lt
  exact ⟨_, _, rfl, full_cell K'.row hq', full_frozen K'.row q, K'.setRow F q (lead_I64 I R hw hb), (ch.mono (by simp)).trans ((one_ch w' gr q _).mono (by simp))⟩
/-- A root. -/
theorem rootWord (F : CaF wA H ps b off c1 a2 a3 a4 a5 c2 c3 c4 c5 C gr go gm mb) (K : Ca wA H b off c1 a2 a3 a4 a5 c2 c3 c4 c5 C gr go gm mb W s rs ms) (I : Inv H ps s D) {q : Nat} (hq : q < rs.length) (hw : wordIn H ps (rs.getD q 0) = true) (hb : I64 (rs.getD q 0)) :
    ∃ x', W.cell? ⟨go, q, none⟩ = some (.int .i64 x') ∧ Calls Tryz.prog 103 #[.pointer (some ⟨C, 0, none⟩), .int .i64 x'] W fun e w' => ∃ y z, e = .returned (.int .i64 y) ∧ w'.cell? ⟨go, q, none⟩ = some (.int .i64 z) ∧ w'.frozen? ⟨go, q, none⟩ = false ∧ Ca wA H b off c1 a2 a3 a4 a5 c2 c3 c4 c5 C gr go gm mb (w'.setCell ⟨go, q, none⟩ (.int .i64 y)) (lead H s (rs.getD q 0)).1 (rs.set q (lead H s (rs.getD q 0)).2) ms ∧ Ch [C, gr, mb, go, gm] W (w'.setCell ⟨go, q, none⟩ (.int .i64 y)) := by
  refine ⟨_, full_cell K.roots hq, (leadAnew_any F K I _ hw hb).mono ?_⟩
  rintro e w' ⟨rfl, K', ch⟩
  exact ⟨_, _, rfl, full_cell K'.roots hq, full_frozen K'.roots q, K'.setRoot F q _, (ch.mono (by simp)).trans ((one_ch w' go q _).mono (by simp))⟩
/-- A mourned one. -/
theorem mourWord (F : CaF wA H ps b off c1 a2 a3 a4 a5 c2 c3 c4 c5 C gr go gm mb) (K : Ca wA H b off c1 a2 a3 a4 a5 c2 c3 c4 c5 C gr go gm mb W s rs ms) (I : Inv H ps s D) {q : Nat} (hq : q < ms.length) (hw : wordIn H ps (ms.getD q 0) = true) (hb : I64 (ms.getD q 0)) :
    ∃ x', W.cell? ⟨gm, q, none⟩ = some (.int .i64 x') ∧ Calls Tryz.prog 103 #[.pointer (some ⟨C, 0, none⟩), .int .i64 x'] W fun e w' => ∃ y z, e = .returned (.int .i64 y) ∧ w'.cell? ⟨gm, q, none⟩ = some (.int .i64 z) ∧ w'.frozen? ⟨gm, q, none⟩ = false ∧ Ca wA H b off c1 a2 a3 a4 a5 c2 c3 c4 c5 C gr go gm mb (w'.setCell ⟨gm, q, none⟩ (.int .i64 y)) (lead H s (ms.getD q 0)).1 rs (ms.set q (lead H s (ms.getD q 0)).2) ∧ Ch [C, gr, mb, go, gm] W (w'.setCell ⟨gm, q, none⟩ (.int .i64 y)) := by
  refine ⟨_, full_cell K.mour hq, (leadAnew_any F K I _ hw hb).mono ?_⟩
  rintro e w' ⟨rfl, K', ch⟩
  exact ⟨_, _, rfl, full_cell K'.mour hq, full_frozen K'.mour q, K'.setMour F q _, (ch.mono (by simp)).trans ((one_ch w' gm q _).mono (by simp))⟩
end
end Go.Proofs.YtmhbdmmpmagbkaaGreat.hp
namespace Go.Proofs.YtmhbdmmpmagbkaaGreat.hp
open Go.RowKit rows heads words walks region Go.Maps
set_option maxRecDepth 100000
set_option linter.unusedVariables false
set_option linter.unusedSimpArgs false

/-- The row's state ahead of the k-th of the lists that lie in the row. -/
def jB (H : Hp) (k : Nat) : Sv := if k < (seenL H).length then seenS H (scB H).1 ((seenL H).take k) else scanS H (scC H) (k - (seenL H).length)
/-- Where its words begin, and how many there are. -/
def jQ (H : Hp) (k : Nat) : Nat := if k < (seenL H).length then ((seenL H).getD k 0).toNat + 1 else pos H (scanS H (scC H) (k - (seenL H).length)) (k - (seenL H).length) + 1
def jK (H : Hp) (k : Nat) : Nat := if k < (seenL H).length then (slotsOf H ((seenL H).getD k 0)).length else (slotsOf H (key (scanS H (scC H) (k - (seenL H).length)) (k - (seenL H).length) : Int)).length
def jS (H : Hp) (i j : Nat) : Sv :=
  match i with
  | 0 => (leadL H (sv0 H) (H.roots.take j)).1
  | 1 => (leadL H (scA H).1 (H.mourned.take j)).1
  | k + 2 => slotsK H (jB H k) (jQ H k) j
def jR (H : Hp) (i j : Nat) : List Int :=
  match i with
  | 0 => (leadL H (sv0 H) (H.roots.take j)).2 ++ H.roots.drop j
  | _ => (scA H).2
def jM (H : Hp) (i j : Nat) : List Int :=
  match i with
  | 0 => H.mourned
  | 1 => (leadL H (scA H).1 (H.mourned.take j)).2 ++ H.mourned.drop j
  | _ => (scB H).2
def jLen (H : Hp) (i : Nat) : Nat :=
  match i with
  | 0 => H.roots.length
  | 1 => H.mourned.length
  | k + 2 => jK H k
def jO (H : Hp) (i : Nat) : Nat :=
  match i with
  | 0 => 0
  | 1 => 0
  | k + 2 => jQ H k
def jG (gr go gm i : Nat) : Nat :=
  match i with
  | 0 => go
  | 1 => gm
  | _ => gr
def jN (H : Hp) (i : Nat) : Nat := pos H (scanS H (scC H) (i - (2 + (seenL H).length))) (i - (2 + (seenL H).length))
def jV (H : Hp) (i : Nat) : Nat := nb H + (jS H i 0).top
theorem mid_get {L xs : List Int} {j : Nat} (hL : L.length = j) (hj : j < xs.length) : (L ++ xs.drop j).getD j 0 = xs.getD j 0 := by
  subst hL
  rw [List.getD_eq_getElem?_getD, List.getElem?_append_right (Nat.le_refl _), Nat.sub_self, List.getElem?_drop, Nat.add_zero, ← List.getD_eq_getElem?_getD]
theorem mid_set {L xs : List Int} {j : Nat} (hL : L.length = j) (hj : j < xs.length) (y : Int) : (L ++ xs.drop j).set j y = (L ++ [y]) ++ xs.drop (j + 1) := by
  subst hL
  rw [List.set_append_right _ _ (Nat.le_refl _), Nat.sub_self, List.drop_eq_getElem_cons hj, List.set_cons_zero, List.append_assoc]
  rfl
theorem mid_len {L xs : List Int} {j : Nat} (hL : L.length = j) (hj : j ≤ xs.length) : (L ++ xs.drop j).length = xs.length := by
  rw [List.length_append, List.length_drop, hL]; omega
theorem jB_next (H : Hp) (k : Nat) (h : k < (seenL H).length ∨ k - (seenL H).length < (scanS H (scC H) (k - (seenL H).length)).went.length) : slotsK H (jB H k) (jQ H k) (jK H k) = jB H (k + 1) := by
  unfold jB jQ jK
  by_cases hk : k < (seenL H).length
  · rw [if_pos hk, if_pos hk, if_pos hk, ← seenS_next H _ hk]
    by_cases hk1 : k + 1 < (seenL H).length
    · rw [if_pos hk1]
    · rw [if_neg hk1, show k + 1 = (seenL H).length by omega, List.take_length, Nat.sub_self]
      rfl
  · have h' := h.resolve_left hk
    rw [if_neg hk, if_neg hk, if_neg hk, if_neg (by omega), show k + 1 - (seenL H).length = k - (seenL H).length + 1 by omega, scan_next h']
theorem jB_zero (H : Hp) : jB H 0 = (scB H).1 := by
  unfold jB
  by_cases hk : 0 < (seenL H).length
  · rw [if_pos hk]; rfl
  · rw [if_neg hk, Nat.zero_sub]
    show scC H = _
    unfold scC
    rw [List.eq_nil_of_length_eq_zero (by omega : (seenL H).length = 0)]
    rfl
/-- What holds within the job k of the row. -/
theorem jInv {H : Hp} {ps : List Int} (R : Rt H ps) {tE : Nat} (hall : ∀ j, j < tE → j < (scanS H (scC H) j).went.length) {k j : Nat} (hk : k < (seenL H).length + tE) (hj : j ≤ jK H k) :
    ∃ D, Inv H ps (slotsK H (jB H k) (jQ H k) j) D ∧ (j < jK H k → ∃ x, Slot H ps (slotsK H (jB H k) (jQ H k) j) (jQ H k + j) x ∧ ¬ D (jQ H k + j)) := by
  have N := (places_facts R.some').1
  unfold jK at hj ⊢
  unfold jB jQ
  by_cases hk' : k < (seenL H).length
  · rw [if_pos hk'] at hj ⊢
    rw [if_pos hk', if_pos hk']
    obtain ⟨I', e⟩ := (inv_B R).seen R k (by omega)
    have hm : (seenL H).getD k 0 ∈ seenL H := by rw [List.getD_eq_getElem?_getD, List.getElem?_eq_getElem hk']; exact List.getElem_mem hk'
    obtain ⟨p, ep, hp, h2, h6⟩ := seen_mem R hm
    have hap := fun {j : Nat} (hj : j < (slotsOf H ((seenL H).getD k 0)).length) => seen_apart R hk' hj
    rw [ep] at hap hj ⊢
    rw [Int.toNat_natCast] at hap ⊢
    obtain ⟨I2, e2⟩ := I'.slots R (q := p + 1) (n := (slotsOf H (p : Int)).length) (xs := slotsOf H (p : Int)) (fun j hj => up_slot R _ hp h2 h6 hj) (fun j hj => hap hj) j hj
    exact ⟨_, I2, fun hlt => ⟨_, (up_slot R _ hp h2 h6 hlt).ext e2, fun h => h.elim (hap hlt) (fun h => by omega)⟩⟩
  · rw [if_neg hk'] at hj ⊢
    rw [if_neg hk', if_neg hk']
    generalize hi' : k - (seenL H).length = i at *
    have hi := hall i (by omega)
    obtain ⟨I', e⟩ := (inv_C R).scan R (ds_up R) i (by
      cases i with
      | zero => exact .inl rfl
      | succ i => exact .inr (hall i (by omega))) (fun j hj => hall j (by omega))
    have hsum := room_for R.some' I'.keys I'.room
    have htop := I'.top
    have hn2 := nb_le N
    have ht := N.top1
    have hnd : ∀ j, j < (slotsOf H (key (scanS H (scC H) i) i : Int)).length → ¬ (DS H (seenL H) (pos H (scanS H (scC H) i) i + 1 + j) ∨ DN H (scanS H (scC H) i) i (pos H (scanS H (scC H) i) i + 1 + j)) := fun j hj => by
      have O : RO H ps (key (scanS H (scC H) i) i) := I'.room _ (key_mem hi)
      have se := slots_end O.ch O.n6
      have hz : 1 + j < szN H (key (scanS H (scC H) i) i) := by unfold szN; omega
      have hpt := pos_top I' hi
      rintro (h | ⟨j', h1, h2, h3, h4⟩)
      · have := ds_up R _ h
        omega
      · have O' : RO H ps (key (scanS H (scC H) i) j') := I'.room _ (key_mem h2)
        have se' := slots_end O'.ch O'.n6
        have hz' : pos H (scanS H (scC H) i) i + 1 + j - pos H (scanS H (scC H) i) j' < szN H (key (scanS H (scC H) i) j') := by unfold szN; omega
        have := pos_apart I' hi h2 hz hz' (by omega)
        omega
    obtain ⟨I2, e2⟩ := I'.slots R (q := pos H (scanS H (scC H) i) i + 1) (n := (slotsOf H (key (scanS H (scC H) i) i : Int)).length) (xs := slotsOf H (key (scanS H (scC H) i) i : Int)) (fun j hj => new_slot I' R hi hj) hnd j hj
    exact ⟨_, I2, fun hlt => ⟨_, (new_slot I' R hi hlt).ext e2, fun h => h.elim (hnd j hlt) (fun h => by omega)⟩⟩
end Go.Proofs.YtmhbdmmpmagbkaaGreat.hp
namespace Go.Proofs.YtmhbdmmpmagbkaaGreat.hp
open Go.RowKit rows heads words walks region Go.Maps
set_option maxRecDepth 100000
set_option linter.unusedVariables false
set_option linter.unusedSimpArgs false

theorem cn_len {H : Hp} {j q : Nat} {row : List Int} (hc : chunk H.row j ≠ 0) (h6 : uF (H.row.getD j 0) ≠ 6) (e : row.getD q 0 = H.row.getD j 0) (a : Option Addr) : cnP (pdOf a row q) = (slotsOf H (j : Int)).length := by
  rw [slots_len hc, cnP_of, e]
  unfold cnS
  by_cases h : uF (H.row.getD j 0) = 7
  · rw [if_pos h, if_pos h]; rfl
  · rw [if_neg h, if_neg h, if_neg h6]
theorem pcs_form (gr q n : Nat) : ∃ a, piece (some ⟨gr, q, none⟩) 1 n = .slice a n n ∧ (0 < n → a = some ⟨gr, q + 1, none⟩) := by
  by_cases h : 0 < n
  · exact ⟨_, piece_at gr q 1 n h, fun _ => rfl⟩
  · exact ⟨_, rfl, fun h' => absurd h' h⟩
theorem pos_zero (H : Hp) (s : Sv) : pos H s 0 = nb H := by unfold pos sumS; simp
theorem pos_lt_top {H : Hp} {ps : List Int} {s : Sv} {D : Nat → Prop} (I : Inv H ps s D) {i : Nat} (hi : i < s.went.length) : pos H s i < nb H + s.top := by
  have h1 := pos_top I hi
  have h2 : 2 ≤ szN H (key s i) := (I.room _ (key_mem hi)).two
  omega
theorem pos_end {H : Hp} {ps : List Int} {s : Sv} {D : Nat → Prop} (I : Inv H ps s D) {i : Nat} (hi : s.went.length ≤ i) : pos H s i = nb H + s.top := by
  unfold pos
  rw [List.take_of_length_le hi, I.top]
/-- The carried one that stands at job t. -/
theorem scanInv {H : Hp} {ps : List Int} (R : Rt H ps) {tE : Nat} (hall : ∀ j, j < tE → j < (scanS H (scC H) j).went.length) {t : Nat} (ht : t ≤ tE) : ∃ D, Inv H ps (scanS H (scC H) t) D :=
  ⟨_, ((inv_C R).scan R (ds_up R) t (by
    cases t with
    | zero => exact .inl rfl
    | succ i => exact .inr (hall i (by omega))) (fun j hj => hall j (by omega))).1⟩
theorem jB_scan (H : Hp) (t : Nat) : jB H ((seenL H).length + t) = scanS H (scC H) t := by
  unfold jB
  rw [if_neg (by omega), Nat.add_sub_cancel_left]
theorem pos_step {H : Hp} {ps : List Int} (R : Rt H ps) {tE : Nat} (hall : ∀ j, j < tE → j < (scanS H (scC H) j).went.length) {t : Nat} (ht : t < tE) : pos H (scanS H (scC H) (t + 1)) (t + 1) = pos H (scanS H (scC H) t) t + szN H (key (scanS H (scC H) t) t) := by
  have hi := hall t ht
  rw [← pos_next H _ hi]
  obtain ⟨I, _⟩ := (inv_C R).scan R (ds_up R) t (by
    cases t with
    | zero => exact .inl rfl
    | succ i => exact .inr (hall i (by omega))) (fun j hj => hall j (by omega))
  have hA : Aft (scanS H (scC H) t) (scanS H (scC H) (t + 1)) := by
    rw [scan_next hi]
    obtain ⟨D, I2, _⟩ := jInv R hall (k := (seenL H).length + t) (j := 0) (by omega) (Nat.zero_le _)
    have N := (places_facts R.some').1
    have hsum := room_for R.some' I.keys I.room
    have htop := I.top
    have hn2 := nb_le N
    have htt := N.top1
    refine (I.slots R (q := pos H (scanS H (scC H) t) t + 1) (n := (slotsOf H (key (scanS H (scC H) t) t : Int)).length) (xs := slotsOf H (key (scanS H (scC H) t) t : Int)) (fun j hj => new_slot I R hi hj) (fun j hj => ?_) _ (Nat.le_refl _)).2
    have O : RO H ps (key (scanS H (scC H) t) t) := I.room _ (key_mem hi)
    have se := slots_end O.ch O.n6
    have hz : 1 + j < szN H (key (scanS H (scC H) t) t) := by unfold szN; omega
    have hpt := pos_top I hi
    rintro (h | ⟨j', h1, h2, h3, h4⟩)
    · have := ds_up R _ h
      omega
    · have O' : RO H ps (key (scanS H (scC H) t) j') := I.room _ (key_mem h2)
      have se' := slots_end O'.ch O'.n6
      have hz' : pos H (scanS H (scC H) t) t + 1 + j - pos H (scanS H (scC H) t) j' < szN H (key (scanS H (scC H) t) j') := by unfold szN; omega
      have := pos_apart I hi h2 hz hz' (by omega)
      omega
  exact hA.pos H (by omega)
set_option maxHeartbeats 8000000 in
theorem plan_of {wA : World} {H : Hp} {ps : List Int} {b off c1 : Nat} {a2 a3 a4 a5 : Option Addr} {c2 c3 c4 c5 C gr go gm mb : Nat} {tE LB : Nat} {lbk : Obj} (F : CaF wA H ps b off c1 a2 a3 a4 a5 c2 c3 c4 c5 C gr go gm mb) (hr : AllI H.roots) (hm : AllI H.mourned) (ht : tE ≤ ps.length)
    (hall : ∀ j, j < tE → j < (scanS H (scC H) j).went.length) (hend : (scanS H (scC H) tE).went.length ≤ tE) (hsn : (seenL H).length ≤ 1000)
    (dC : LB ≠ C) (dR : LB ≠ gr) (dB : LB ≠ mb) (dO : LB ≠ go) (dM : LB ≠ gm)
    (hcell : ∀ (W : World) i, W.heap[LB]? = some lbk → i < 2 + (seenL H).length → W.cell? ⟨LB, i, none⟩ = some ((outs gr go gm H.roots.length H.mourned.length (sv0 H).row (seenL H)).getD i (.slice none 0 0))) :
    Plan C LB (2 + (seenL H).length) (2 + (seenL H).length + tE) (jLen H) (jG gr go gm) (jO H) (jN H) (jV H) (fun i j W => Ca wA H b off c1 a2 a3 a4 a5 c2 c3 c4 c5 C gr go gm mb W (jS H i j) (jR H i j) (jM H i j) ∧ W.heap[LB]? = some lbk) := by
  have R := F.fol.rt
  have N := (places_facts R.some').1
  have hlen := N.len
  have hh1 := N.half1
  have ho1 := N.old1
  have hps := (places_plc R.some').2
  have hnl : LB ∉ [C, gr, mb, go, gm] := by simp; omega
  refine ⟨?_, ?_, ?_, ?_, ?_, ?_, ?_, ?_, ?_, ?_, ?_, by omega, by omega, by omega⟩
  · rintro i j W W' hb ⟨K, hL⟩
    exact ⟨K.grow hb, (hb.block _ (lt_of_block hL)).trans hL⟩
  · -- word
    rintro i j W hi ⟨K, hL⟩ hj
    match i, hi, K, hj with
    | 0, hi, K, hj =>
      have hj' : j < H.roots.length := hj
      have hLl := leadL_len H (sv0 H) H.roots j (by omega)
      have hg := mid_get hLl hj'
      have hw := R.roots
      rw [List.all_eq_true] at hw
      have hx : H.roots.getD j 0 ∈ H.roots := by rw [List.getD_eq_getElem?_getD, List.getElem?_eq_getElem hj']; exact List.getElem_mem hj'
      have I := ((inv0 (ps := ps) N).leadL R (xs := H.roots) hw j (by omega)).1
      change Ca wA H b off c1 a2 a3 a4 a5 c2 c3 c4 c5 C gr go gm mb W (leadL H (sv0 H) (H.roots.take j)).1 ((leadL H (sv0 H) (H.roots.take j)).2 ++ H.roots.drop j) H.mourned at K
      obtain ⟨x, hc, hcall⟩ := rootWord F K I (q := j) (by rw [mid_len hLl (by omega)]; exact hj') (by rw [hg]; exact hw _ hx) (by rw [hg]; exact hr _ hx)
      show ∃ x, W.cell? ⟨go, 0 + j, none⟩ = some (.int .i64 x) ∧ _
      rw [show jO H 0 + j = j from Nat.zero_add j, Nat.zero_add]
      refine ⟨x, hc, hcall.mono ?_⟩
      rintro e w' ⟨y, z, he, h1, h2, hK, hch⟩
      refine ⟨y, z, he, h1, h2, ?_, (hch.block LB (lt_of_block hL) hnl).trans hL⟩
      have e1 := leadL_next H (sv0 H) hj'
      show Ca wA H b off c1 a2 a3 a4 a5 c2 c3 c4 c5 C gr go gm mb _ (leadL H (sv0 H) (H.roots.take (j + 1))).1 ((leadL H (sv0 H) (H.roots.take (j + 1))).2 ++ H.roots.drop (j + 1)) H.mourned
      rw [e1]
      change Ca wA H b off c1 a2 a3 a4 a5 c2 c3 c4 c5 C gr go gm mb _ (lead H (leadL H (sv0 H) (H.roots.take j)).1 (((leadL H (sv0 H) (H.roots.take j)).2 ++ H.roots.drop j).getD j 0)).1 (((leadL H (sv0 H) (H.roots.take j)).2 ++ H.roots.drop j).set j (lead H (leadL H (sv0 H) (H.roots.take j)).1 (((leadL H (sv0 H) (H.roots.take j)).2 ++ H.roots.drop j).getD j 0)).2) H.mourned at hK
      rw [hg, mid_set hLl hj'] at hK
      exact hK
    | 1, hi, K, hj =>
      have hj' : j < H.mourned.length := hj
      have hLl := leadL_len H (scA H).1 H.mourned j (by omega)
      have hg := mid_get hLl hj'
      have hx : H.mourned.getD j 0 ∈ H.mourned := by rw [List.getD_eq_getElem?_getD, List.getElem?_eq_getElem hj']; exact List.getElem_mem hj'
      have I := ((inv_A R).leadL R (mourn_word R) j (by omega)).1
      change Ca wA H b off c1 a2 a3 a4 a5 c2 c3 c4 c5 C gr go gm mb W (leadL H (scA H).1 (H.mourned.take j)).1 (scA H).2 ((leadL H (scA H).1 (H.mourned.take j)).2 ++ H.mourned.drop j) at K
      obtain ⟨x, hc, hcall⟩ := mourWord F K I (q := j) (by rw [mid_len hLl (by omega)]; exact hj') (by rw [hg]; exact mourn_word R _ hx) (by rw [hg]; exact hm _ hx)
      show ∃ x, W.cell? ⟨gm, 0 + j, none⟩ = some (.int .i64 x) ∧ _
      rw [show jO H 1 + j = j from Nat.zero_add j, Nat.zero_add]
      refine ⟨x, hc, hcall.mono ?_⟩
      rintro e w' ⟨y, z, he, h1, h2, hK, hch⟩
      refine ⟨y, z, he, h1, h2, ?_, (hch.block LB (lt_of_block hL) hnl).trans hL⟩
      have e1 := leadL_next H (scA H).1 hj'
      show Ca wA H b off c1 a2 a3 a4 a5 c2 c3 c4 c5 C gr go gm mb _ (leadL H (scA H).1 (H.mourned.take (j + 1))).1 (scA H).2 ((leadL H (scA H).1 (H.mourned.take (j + 1))).2 ++ H.mourned.drop (j + 1))
      rw [e1]
      change Ca wA H b off c1 a2 a3 a4 a5 c2 c3 c4 c5 C gr go gm mb _ (lead H (leadL H (scA H).1 (H.mourned.take j)).1 (((leadL H (scA H).1 (H.mourned.take j)).2 ++ H.mourned.drop j).getD j 0)).1 (scA H).2 (((leadL H (scA H).1 (H.mourned.take j)).2 ++ H.mourned.drop j).set j (lead H (leadL H (scA H).1 (H.mourned.take j)).1 (((leadL H (scA H).1 (H.mourned.take j)).2 ++ H.mourned.drop j).getD j 0)).2) at hK
      rw [hg, mid_set hLl hj'] at hK
      exact hK
    | k + 2, hi, K, hj =>
      obtain ⟨D, I, hsl⟩ := jInv R hall (k := k) (j := j) (by omega) (Nat.le_of_lt hj)
      obtain ⟨x, hs, hd⟩ := hsl hj
      obtain ⟨x', hc, hcall⟩ := rowWord F K I hs hd
      refine ⟨x', hc, hcall.mono ?_⟩
      rintro e w' ⟨y, z, he, h1, h2, hK, hch⟩
      exact ⟨y, z, he, h1, h2, hK, (hch.block LB (lt_of_block hL) hnl).trans hL⟩
  · -- next
    rintro i W hi ⟨K, hL⟩
    refine ⟨?_, hL⟩
    match i, hi, K with
    | 0, hi, K =>
      change Ca wA H b off c1 a2 a3 a4 a5 c2 c3 c4 c5 C gr go gm mb W (leadL H (sv0 H) (H.roots.take H.roots.length)).1 ((leadL H (sv0 H) (H.roots.take H.roots.length)).2 ++ H.roots.drop H.roots.length) H.mourned at K
      rw [List.take_length, List.drop_length, List.append_nil] at K
      exact K
    | 1, hi, K =>
      change Ca wA H b off c1 a2 a3 a4 a5 c2 c3 c4 c5 C gr go gm mb W (leadL H (scA H).1 (H.mourned.take H.mourned.length)).1 (scA H).2 ((leadL H (scA H).1 (H.mourned.take H.mourned.length)).2 ++ H.mourned.drop H.mourned.length) at K
      rw [List.take_length, List.drop_length, List.append_nil] at K
      show Ca wA H b off c1 a2 a3 a4 a5 c2 c3 c4 c5 C gr go gm mb W (jB H 0) (scA H).2 (scB H).2
      rw [jB_zero]
      exact K
    | k + 2, hi, K =>
      have e := jB_next H k (by
        by_cases h : k < (seenL H).length
        · exact .inl h
        · exact .inr (hall _ (by omega)))
      change Ca wA H b off c1 a2 a3 a4 a5 c2 c3 c4 c5 C gr go gm mb W (slotsK H (jB H k) (jQ H k) (jK H k)) (scA H).2 (scB H).2 at K
      rw [e] at K
      exact K
  · -- list
    rintro i W hi ⟨K, hL⟩
    have hc := hcell W i hL hi
    match i, hi, hc with
    | 0, hi, hc => exact ⟨_, _, hc, fun _ => rfl, Nat.le_refl _, by have := N.roots; omega⟩
    | 1, hi, hc => exact ⟨_, _, hc, fun _ => rfl, Nat.le_refl _, by have := N.mourned; omega⟩
    | k + 2, hi, hc =>
      have hk : k < (seenL H).length := by omega
      have e0 : (outs gr go gm H.roots.length H.mourned.length (sv0 H).row (seenL H)).getD (k + 2) (.slice none 0 0) = pcs gr (sv0 H).row ((seenL H).getD k 0) := by
        unfold outs
        simp [List.getD_eq_getElem?_getD, List.getElem?_eq_getElem hk]
      rw [e0] at hc
      have hmm : (seenL H).getD k 0 ∈ seenL H := by rw [List.getD_eq_getElem?_getD, List.getElem?_eq_getElem hk]; exact List.getElem_mem hk
      obtain ⟨p, ep, hp, h2, h6⟩ := seen_mem R hmm
      obtain ⟨p', ep', hpl, hch⟩ := (places_plc R.some').1 _ hp
      obtain rfl : p = p' := by omega
      have eq1 : (sv0 H).row.getD p 0 = H.row.getD p 0 := by
        show (clearR H).getD p 0 = _
        rw [clearR_get, if_neg (by omega)]
      unfold pcs at hc
      rw [ep, Int.toNat_natCast, cn_len hch h6 eq1] at hc
      have eL : jLen H (k + 2) = (slotsOf H (p : Int)).length := by show jK H k = _; unfold jK; rw [if_pos hk, ep]
      have eO : jO H (k + 2) = p + 1 := by show jQ H k = _; unfold jQ; rw [if_pos hk, ep, Int.toNat_natCast]
      obtain ⟨a, ea, ha⟩ := pcs_form gr p (slotsOf H (p : Int)).length
      rw [ea] at hc
      have se := slots_end hch h6
      have cb := chunk_fits hch h6
      rw [eL, eO]
      exact ⟨a, _, hc, ha, Nat.le_refl _, by omega⟩
  · -- room
    rintro i W hi0 hiM ⟨K, hL⟩
    obtain ⟨⟨z0, z1, z2, z3, z4, z5, z6, z7, z8, z9, z10, z11, z12, z13, z14, z15, z16, z17, z18, z19, z20⟩, _⟩ := cab_cells K.blk
    have hs01 := side_01 R.some'
    have hsb := side_base N hs01
    have hnb := nb_le N
    have htp : (jS H i 0).top ≤ 200 := by
      rcases hi0 with rfl | hi0
      · show (sv0 H).top ≤ 200
        exact Nat.zero_le _
      · obtain ⟨t, rfl⟩ : ∃ t, i = (seenL H).length + t + 2 := ⟨i - (2 + (seenL H).length), by omega⟩
        show (jB H ((seenL H).length + t)).top ≤ 200
        rw [jB_scan]
        obtain ⟨D, I⟩ := scanInv R hall (t := t) (by omega)
        have hsum := room_for R.some' I.keys I.room
        have htop := I.top
        have htt := N.top1
        omega
    have RE := roomEnd_any (w := W) (H := ⟨H.half, H.old, [], 1 - H.side, ((jS H i 0).top : Int), [], [], [], H.seed⟩) (a1 := some ⟨gr, 0, none⟩) (n1 := H.row.length) (c1 := H.row.length) (a2 := some ⟨go, 0, none⟩) (n2 := H.roots.length) (c2 := H.roots.length) (a3 := some ⟨gm, 0, none⟩) (n3 := H.mourned.length) (c3 := H.mourned.length) (a4 := a4) (n4 := H.seen.length) (c4 := c4) (show 0 ≤ 1 - H.side ∧ 1 - H.side ≤ 1 by omega) (show 0 ≤ H.half ∧ H.half ≤ 200 by have := N.half; omega) (show 0 ≤ ((jS H i 0).top : Int) ∧ ((jS H i 0).top : Int) ≤ 200 by omega) (show 0 ≤ (1 - H.side) * H.half ∧ (1 - H.side) * H.half ≤ 200 by rw [hsb]; omega)
    refine ⟨_, _, _, _, _, _, _, _, _, _, _, _, _, _, _, _, _, ⟨z11, z12, z13, z14, z15, z16, z17, z18, z19⟩, RE.mono ?_⟩
    rintro e w' ⟨he, hb⟩
    refine ⟨?_, hb⟩
    rw [he]
    show _ = Ending.returned (.int .i64 ((nb H + (jS H i 0).top : Nat) : Int))
    simp only [hsb]
    congr 2
  · -- more
    rintro i W hNi hiM ⟨K, hL⟩
    obtain ⟨t, rfl⟩ : ∃ t, i = (seenL H).length + t + 2 := ⟨i - (2 + (seenL H).length), by omega⟩
    have ht' : t < tE := by omega
    have hi := hall t ht'
    obtain ⟨D, I⟩ := scanInv R hall (t := t) (by omega)
    change Ca wA H b off c1 a2 a3 a4 a5 c2 c3 c4 c5 C gr go gm mb W (jB H ((seenL H).length + t)) (scA H).2 (scB H).2 at K
    rw [jB_scan] at K
    have O : RO H ps (key (scanS H (scC H) t) t) := I.room _ (key_mem hi)
    obtain ⟨ec, eg⟩ := chunk_new I R hi
    have e0 : jN H ((seenL H).length + t + 2) = pos H (scanS H (scC H) t) t := by unfold jN; rw [show (seenL H).length + t + 2 - (2 + (seenL H).length) = t by omega]
    have e1 : jN H ((seenL H).length + t + 2 + 1) = pos H (scanS H (scC H) t) t + szN H (key (scanS H (scC H) t) t) := by unfold jN; rw [show (seenL H).length + t + 2 + 1 - (2 + (seenL H).length) = t + 1 by omega]; exact pos_step R hall ht'
    have eL : jLen H ((seenL H).length + t + 2) = (slotsOf H (key (scanS H (scC H) t) t : Int)).length := by show jK H _ = _; unfold jK; rw [if_neg (by omega), Nat.add_sub_cancel_left]
    have eO : jO H ((seenL H).length + t + 2) = pos H (scanS H (scC H) t) t + 1 := by show jQ H _ = _; unfold jQ; rw [if_neg (by omega), Nat.add_sub_cancel_left]
    have hlen2 := I.len
    have MS := madeSlots_any (ps := ps) K hlen2 (by omega) (q := pos H (scanS H (scC H) t) t) (by rw [ec]; exact O.ch) (by rw [eg]; exact O.n6)
    rw [cn_len O.ch O.n6 eg, ec] at MS
    obtain ⟨a, ea, ha⟩ := pcs_form gr (pos H (scanS H (scC H) t) t) (slotsOf H (key (scanS H (scC H) t) t : Int)).length
    have se := slots_end O.ch O.n6
    have cf := chunk_fits O.ch O.n6
    have esz : ((szN H (key (scanS H (scC H) t) t) : Nat) : Int) = chunk H.row (key (scanS H (scC H) t) t) := by unfold szN; omega
    rw [e0, e1, eL, eO]
    refine MS.mono ?_
    rintro e w' ⟨he, hb⟩
    refine ⟨a, _, ?_, ha, Nat.le_refl _, by omega, hb⟩
    rw [he, ea, show ((pos H (scanS H (scC H) t) t + szN H (key (scanS H (scC H) t) t) : Nat) : Int) - (pos H (scanS H (scC H) t) t : Int) = chunk H.row (key (scanS H (scC H) t) t) by omega]
  · -- rv0
    show nb H + (sv0 H).top = _
    unfold jN
    rw [Nat.sub_self, pos_zero]
    rfl
  · -- rvM
    obtain ⟨D, I⟩ := scanInv R hall (Nat.le_refl tE)
    have e1 : jV H (2 + (seenL H).length + tE) = nb H + (scanS H (scC H) tE).top := by
      rw [show 2 + (seenL H).length + tE = (seenL H).length + tE + 2 by omega]
      show nb H + (jB H ((seenL H).length + tE)).top = _
      rw [jB_scan]
    rw [e1]
    unfold jN
    rw [Nat.add_sub_cancel_left, pos_end I hend]
  · -- rvi
    intro i hNi hiM
    obtain ⟨t, rfl⟩ : ∃ t, i = (seenL H).length + t + 2 := ⟨i - (2 + (seenL H).length), by omega⟩
    obtain ⟨D, I⟩ := scanInv R hall (t := t) (by omega)
    have h1 := pos_lt_top I (hall t (by omega))
    show nb H + (jB H ((seenL H).length + t)).top ≠ _
    unfold jN
    rw [jB_scan, show (seenL H).length + t + 2 - (2 + (seenL H).length) = t by omega]
    omega
  · -- gle
    intro i hi
    unfold jN
    have hlt : i - (2 + (seenL H).length) ≤ tE := by omega
    generalize i - (2 + (seenL H).length) = t at *
    obtain ⟨D, I⟩ := scanInv R hall (t := t) hlt
    have hsum := room_for R.some' I.keys I.room
    have htop := I.top
    have hn2 := nb_le N
    have htt := N.top1
    by_cases h : t < (scanS H (scC H) t).went.length
    · have := pos_lt_top I h
      omega
    · have := pos_end I (i := t) (by omega)
      omega
  · -- lenle
    intro i hi
    match i, hi with
    | 0, _ => have := N.roots; show H.roots.length ≤ 1000; omega
    | 1, _ => have := N.mourned; show H.mourned.length ≤ 1000; omega
    | k + 2, hi =>
      show jK H k ≤ 1000
      unfold jK slotsOf
      split <;> (rw [List.length_take, List.length_drop]; omega)
end Go.Proofs.YtmhbdmmpmagbkaaGreat.hp
namespace Go.Proofs.YtmhbdmmpmagbkaaGreat.hp
open Go.RowKit rows heads words walks region Go.Maps
set_option maxRecDepth 100000
set_option linter.unusedVariables false
set_option linter.unusedSimpArgs false

theorem seen_len13 {H : Hp} {ps : List Int} (R : Rt H ps) : (seenL H).length ≤ 500 := by
  obtain ⟨_, _, r, u, _, hu, _, e⟩ := places_facts R.some'
  have hl := (places_plc R.some').2
  rw [e, List.length_append] at hl
  unfold seenL
  rw [hu, Option.getD_some]
  exact Nat.le_trans (List.length_filter_le _ _) (by omega)
set_option maxHeartbeats 8000000 in
theorem carryAll_any {wA : World} {H : Hp} {ps : List Int} {b off c1 : Nat} {a2 a3 a4 a5 : Option Addr} {c2 c3 c4 c5 C gr go gm mb : Nat} {w : World} (F : CaF wA H ps b off c1 a2 a3 a4 a5 c2 c3 c4 c5 C gr go gm mb) (K : Ca wA H b off c1 a2 a3 a4 a5 c2 c3 c4 c5 C gr go gm mb w (sv0 H) H.roots H.mourned) (hr : AllI H.roots) (hm : AllI H.mourned) (hse : H.seen = seenL H) :
    Calls Tryz.prog 74 #[.pointer (some ⟨C, 0, none⟩)] w fun e w' => e = .returned (.tuple #[]) ∧ Ca wA H b off c1 a2 a3 a4 a5 c2 c3 c4 c5 C gr go gm mb w' (scE H ps) (scA H).2 (scB H).2 := by
  have R := F.fol.rt
  have N := (places_facts R.some').1
  have hlen := N.len
  have hh1 := N.half1
  have ho1 := N.old1
  have hps := (places_plc R.some').2
  obtain ⟨tE, h1, hall, hend, hE⟩ := scan_end (inv_C R) R (ds_up R)
  have hl0 : (sv0 H).row.length = H.row.length := clearR_len N
  have hsn : (seenL H).length ≤ 1000 := Nat.le_trans (seen_len13 R) (by decide)
  refine carryAll_plan (N := 2 + (seenL H).length) (M := 2 + (seenL H).length + tE) (len := jLen H) (g := jG gr go gm) (o := jO H) (gn := jN H) (rv := jV H) ((wordsFromOutside_any F K hl0 (by omega) (by rw [hse]; exact hsn) (fun x hx => ?_)).mono ?_)
  · rw [hse] at hx
    obtain ⟨p, ep, hp, h2, h6⟩ := seen_mem R hx
    obtain ⟨p', ep', hpl, hch⟩ := (places_plc R.some').1 _ hp
    obtain rfl : p = p' := by omega
    refine ⟨p, ep, ?_, ?_⟩
    · rw [chunk_up (inv0 N) R hp h2]; exact hch
    · show uF ((clearR H).getD p 0) ≠ 6
      rw [clearR_get, if_neg (by omega)]; exact h6
  rintro e w' ⟨v, rfl, hO, hB⟩
  rw [hse] at hO
  obtain ⟨hol, ⟨_, hz⟩ | ⟨LB, lc, cur, rfl, hLB, hblk, hlc, hlc1, hcs, htk⟩⟩ := hO
  · omega
  have hC := lt_of_block K.blk
  have hR := lt_of_block K.row
  have hOo := lt_of_block K.roots
  have hMm := lt_of_block K.mour
  have hMB : mb < w.heap.size := by
    obtain ⟨D, hmap, _⟩ := K.map
    exact World.ownsMap.lt hmap
  refine ⟨LB, lc, _, rfl, hlc, hlc1, plan_of (tE := tE) (lbk := .cells cur 22 (0, 0)) F hr hm h1 hall hend hsn (by omega) (by omega) (by omega) (by omega) (by omega) (fun W i hW hi => ?_), fun W hW => ?_, K.grow hB, hblk⟩
  · rw [← htk]
    have hsz : i < cur.size := by rw [hcs]; omega
    rw [World.cell?]
    simp [hW, List.getD_eq_getElem?_getD, List.getElem?_take, show i < (2 + (seenL H).length) * 1 by omega, Array.getElem?_toList, Array.getElem?_eq_getElem hsz, hi]
  · have := hW.1
    rw [show 2 + (seenL H).length + tE = (seenL H).length + tE + 2 by omega] at this
    change Ca wA H b off c1 a2 a3 a4 a5 c2 c3 c4 c5 C gr go gm mb W (jB H ((seenL H).length + tE)) (scA H).2 (scB H).2 at this
    rw [jB_scan, ← hE] at this
    exact this
end Go.Proofs.YtmhbdmmpmagbkaaGreat.hp
namespace Go.Proofs.YtmhbdmmpmagbkaaGreat.hp
open Go.RowKit rows heads words walks region Go.Maps
set_option maxRecDepth 100000
set_option linter.unusedVariables false
set_option linter.unusedSimpArgs false

theorem roomB_of14 {a : Option Addr} {H : Hp} {ps : List Int} (hn : numB H = true) (h : placesR H = some ps) : roomB a H = true := by
  obtain ⟨_, hz, r, u, hr, hu, hok, _⟩ := places_facts h
  have hb := placesB_yes hz hr hu hok
  cases e : roomB a H
  · rw [room_none hn e] at hb; cases hb
  · rfl
section
variable {V : World} {H : Hp} {ps : List Int} {b off c1 : Nat} {a2 a3 a4 a5 : Option Addr} {c2 c3 c4 c5 C gr go gm mb : Nat}
theorem allI_clear {H : Hp} (h : AllI H.row) : AllI (clearR H) := fun x hx => by
  unfold clearR at hx
  rcases List.mem_append.1 hx with hx | hx
  · rw [List.eq_of_mem_replicate hx]; unfold I64; decide
  · exact h x (List.mem_of_mem_drop hx)
/-- The memory is laid. -/
theorem start_any (hp : HpAt V (.slice (some ⟨b, off, none⟩) H.row.length c1) (.slice a2 H.roots.length c2) (.slice a3 H.mourned.length c3) (.slice a4 H.seen.length c4) H) (hs : hpSize H ≤ 1048576) (rooms : RoomsAt V (.slice a5 (objsP (some ⟨b, off, none⟩) H).length c5) (objsP (some ⟨b, off, none⟩) H) (slP H.row)) (fol : FolP H ps (objsP (some ⟨b, off, none⟩) H) (slP H.row)) (room : roomB (some ⟨b, off, none⟩) H = true) (num : AllI H.row) (blt : b < V.heap.size) :
    Calls Tryz.prog 73 #[hov H (.slice (some ⟨b, off, none⟩) H.row.length c1) (.slice a2 H.roots.length c2) (.slice a3 H.mourned.length c3) (.slice a4 H.seen.length c4) (2 * H.half) (.slice a5 (objsP (some ⟨b, off, none⟩) H).length c5)] V fun e w' => ∃ C gr go gm mb, e = .returned (.pointer (some ⟨C, 0, none⟩)) ∧ CaF V H ps b off c1 a2 a3 a4 a5 c2 c3 c4 c5 C gr go gm mb ∧ Ca V H b off c1 a2 a3 a4 a5 c2 c3 c4 c5 C gr go gm mb w' (sv0 H) H.roots H.mourned := by
  have R := fol.rt
  have N := (places_facts R.some').1
  have hh1 := N.half1
  have hl := N.len
  have hs01 := side_01 R.some'
  have hup : ((2 * hf H : Nat) : Int) = 2 * H.half := by have := N.half; omega
  have SC := startCarrying_any (up := 2 * hf H) (a5 := a5) (n5 := (objsP (some ⟨b, off, none⟩) H).length) (c5 := c5) hp hs (by omega) (by omega) (by omega)
  rw [hup] at SC
  refine SC.mono ?_
  rintro e w' ⟨C, gr, go, gm, mb, he, hC, h1, h2, h3, h4, g1, g2, g3, g4, g5, hB⟩
  refine ⟨C, gr, go, gm, mb, he, ⟨hp, rooms, fol, room, num, blt, by omega, by omega, by omega, by omega, by omega, by omega, by omega, by omega, by omega, by omega, by omega, by omega, by omega, by omega, by omega⟩, ⟨hC, h1, h2, h3, rfl, rfl, ⟨.map [], h4, MapW.start⟩, hB, allI_clear num⟩⟩
end
section
variable {wA : World} {H : Hp} {ps : List Int} {b off c1 : Nat} {a2 a3 a4 a5 : Option Addr} {c2 c3 c4 c5 C gr go gm mb : Nat} {W : World}
/-- What is seen, told anew. -/
theorem end_any (F : CaF wA H ps b off c1 a2 a3 a4 a5 c2 c3 c4 c5 C gr go gm mb) (K : Ca wA H b off c1 a2 a3 a4 a5 c2 c3 c4 c5 C gr go gm mb W (scE H ps) (scA H).2 (scB H).2) :
    Calls Tryz.prog 75 #[.pointer (some ⟨C, 11, none⟩)] W fun e w' => ∃ ua un uc, e = .returned (.tuple #[]) ∧ w'.heap[C]? = some (cab H (.slice (some ⟨b, off, none⟩) H.row.length c1) (.slice a2 H.roots.length c2) (.slice a3 H.mourned.length c3) (.slice a4 H.seen.length c4) (2 * H.half) (.slice a5 (objsP (some ⟨b, off, none⟩) H).length c5) (1 - H.side) (scE H ps).top (.slice (some ⟨gr, 0, none⟩) H.row.length H.row.length) (.slice (some ⟨go, 0, none⟩) H.roots.length H.roots.length) (.slice (some ⟨gm, 0, none⟩) H.mourned.length H.mourned.length) (.slice ua un uc) mb) ∧ OwnH w' wA.heap.size (.slice (some ⟨gr, 0, none⟩) H.row.length H.row.length) (.slice (some ⟨go, 0, none⟩) H.roots.length H.roots.length) (.slice (some ⟨gm, 0, none⟩) H.mourned.length H.mourned.length) (.slice ua un uc) (scavF H ps) ∧ Below wA.heap.size wA w' := by
  have R := F.fol.rt
  have N := (places_facts R.some').1
  have hh1 := N.half1
  have ho1 := N.old1
  have hl := N.len
  obtain ⟨D, I⟩ := inv_E R
  obtain ⟨ps', hp', _, hN', hnb⟩ := scav_right R
  have e1 : (scavH H ps).row.length = H.row.length := I.len
  have e2 : (scavH H ps).roots.length = H.roots.length := scA_len H
  have e3 : (scavH H ps).mourned.length = H.mourned.length := scB_len H
  have hmo := N.mourned
  have hro := N.roots
  have o1 : rows.Own W wA.heap.size (.slice (some ⟨gr, 0, none⟩) H.row.length H.row.length) (scavH H ps).row := by rw [← e1]; exact full_own K.row F.gR (by rw [e1]; unfold maxLen; omega)
  have o2 : rows.Own W wA.heap.size (.slice (some ⟨go, 0, none⟩) H.roots.length H.roots.length) (scavH H ps).roots := by rw [← e2]; exact full_own K.roots F.gO (by rw [e2]; unfold maxLen; omega)
  have o3 : rows.Own W wA.heap.size (.slice (some ⟨gm, 0, none⟩) H.mourned.length H.mourned.length) (scavH H ps).mourned := by rw [← e3]; exact full_own K.mour F.gM (by rw [e3]; unfold maxLen; omega)
  have SA := seeAnewC_any (H := scavH H ps) (a1 := some ⟨gr, 0, none⟩) (c1 := H.row.length) (a2 := some ⟨go, 0, none⟩) (c2 := H.roots.length) (a3 := some ⟨gm, 0, none⟩) (c3 := H.mourned.length) (a4 := a4) (c4 := c4) K.blk rfl rfl (by rw [e1]; rfl) rfl rfl (by rw [e2]; rfl) (by rw [e3]; rfl) rfl rfl ⟨by rw [e1]; exact own_ints o1, by rw [e2]; exact own_ints o2, by rw [e3]; exact own_ints o3, intsAt_below F.hp.2.2.2 K.bel⟩ hnb (roomB_of14 hnb hp') K.num
  refine SA.mono ?_
  rintro e w' ⟨u, he, hu, hbk, hch⟩
  obtain ⟨ua, un, uc, rfl⟩ := ints_slice (own_ints hu)
  have hKs := K.bel.size
  have hCW := F.gC
  refine ⟨ua, un, uc, he, hbk, ⟨⟨?_, ?_, ?_, ?_⟩, ?_⟩, K.bel.trans (below_ch hch K.bel.size (fun k hk => by simp at hk; omega))⟩
  · exact row_ch o1 hch (fun k hk => by obtain rfl : k = gr := (by simpa [blk, Value.ownBlock] using hk); have := F.dCR; simp; omega)
  · exact row_ch o2 hch (fun k hk => by obtain rfl : k = go := (by simpa [blk, Value.ownBlock] using hk); have := F.dCO; simp; omega)
  · exact row_ch o3 hch (fun k hk => by obtain rfl : k = gm := (by simpa [blk, Value.ownBlock] using hk); have := F.dCM; simp; omega)
  · exact own_base hu hKs
  · have h1 := lt_of_block K.row
    have h2 := lt_of_block K.roots
    have h3 := lt_of_block K.mour
    have hd1 := F.dRO
    have hd2 := F.dRM
    have hd3 := F.dOM
    have hlt := blk_lt hu
    unfold hblk
    have eb : ∀ g n, blk (.slice (some ⟨g, 0, none⟩) n n) = [g] := fun g n => rfl
    rw [eb, eb, eb]
    cases ua with
    | none => simp [blk, Value.ownBlock]; omega
    | some ad =>
      have := (hlt ad.block (by simp [blk, Value.ownBlock])).1
      simp [blk, Value.ownBlock]
      omega
end
end Go.Proofs.YtmhbdmmpmagbkaaGreat.hp
namespace Go.Proofs.YtmhbdmmpmagbkaaGreat.hp
open Go.RowKit rows heads words walks region Go.Maps
set_option maxRecDepth 100000
set_option linter.unusedVariables false
set_option linter.unusedSimpArgs false

theorem hblk_ge {w : World} {base : Nat} {vr vo vm vs : Value} {H : Hp} (h : OwnH w base vr vo vm vs H) : ∀ k ∈ hblk vr vo vm vs, base ≤ k := by
  intro k hk
  unfold hblk at hk
  simp only [List.mem_append] at hk
  rcases hk with ((h1 | h1) | h1) | h1
  · exact (blk_lt h.1.1 k h1).1
  · exact (blk_lt h.1.2.1 k h1).1
  · exact (blk_lt h.1.2.2.1 k h1).1
  · exact (blk_lt h.1.2.2.2 k h1).1
set_option maxHeartbeats 16000000 in
theorem scavenged_any {H : Hp} (hI : HpI H) (w : World) (vr vo vm vs : Value) (h : HpAt w vr vo vm vs H) (hs : hpSize H ≤ 1048576) :
    Calls Tryz.prog 46 #[hpv H vr vo vm vs] w fun e w' => ∃ (o' r' m' s' : Value), e = .returned (.tuple #[hpv (scavOk H) o' r' m' s', .bool (heapOk H)]) ∧ OwnH w' w.heap.size o' r' m' s' (scavOk H) ∧ Below w.heap.size w w' := by
  obtain ⟨a1, c1, a2, c2, a3, c3, a4, c4, e1, e2, e3, e4⟩ := hpAt_slices h
  subst e1 e2 e3 e4
  have B0 : Below w.heap.size w (w.alloc (hpb H (.slice a1 H.row.length c1) (.slice a2 H.roots.length c2) (.slice a3 H.mourned.length c3) (.slice a4 H.seen.length c4))) := (Below.refl _ _).alloc (Nat.le_refl _) _
  have B1 := B0.alloc B0.size (hpb ⟨0, 0, [], 0, 0, [], [], [], 0⟩ (.slice none 0 0) (.slice none 0 0) (.slice none 0 0) (.slice none 0 0))
  have HT0 : Hid (Nine ((w.alloc (hpb H (.slice a1 H.row.length c1) (.slice a2 H.roots.length c2) (.slice a3 H.mourned.length c3) (.slice a4 H.seen.length c4))).alloc (hpb ⟨0, 0, [], 0, 0, [], [], [], 0⟩ (.slice none 0 0) (.slice none 0 0) (.slice none 0 0) (.slice none 0 0))) w.heap.size 31 (.int .i64 H.half) (.int .i64 H.old) (.slice a1 H.row.length c1) (.int .i64 H.side) (.int .i64 H.top) (.slice a2 H.roots.length c2) (.slice a3 H.mourned.length c3) (.slice a4 H.seen.length c4) (.int .i64 H.seed)) := heap_alloc2_old _ _ _
  have HT1 : Hid (Nine ((w.alloc (hpb H (.slice a1 H.row.length c1) (.slice a2 H.roots.length c2) (.slice a3 H.mourned.length c3) (.slice a4 H.seen.length c4))).alloc (hpb ⟨0, 0, [], 0, 0, [], [], [], 0⟩ (.slice none 0 0) (.slice none 0 0) (.slice none 0 0) (.slice none 0 0))) (w.heap.size + 1) 31 (.int .i64 0) (.int .i64 0) (.slice none 0 0) (.int .i64 0) (.int .i64 0) (.slice none 0 0) (.slice none 0 0) (.slice none 0 0) (.int .i64 0)) := heap_alloc2_new _ _ _
  have HsX : Hid (w.heap.size + 2 ≤ ((w.alloc (hpb H (.slice a1 H.row.length c1) (.slice a2 H.roots.length c2) (.slice a3 H.mourned.length c3) (.slice a4 H.seen.length c4))).alloc (hpb ⟨0, 0, [], 0, 0, [], [], [], 0⟩ (.slice none 0 0) (.slice none 0 0) (.slice none 0 0) (.slice none 0 0))).heap.size) := by show _ ≤ _; simp
  have HHX : Hid _ := hpAt_below h B1
  have HB1 : Hid _ := B1
  have OX := opened_any HHX.out hs hI
  unfold OpenR at OX
  have HSZ : Hid _ := hs
  have HII : Hid _ := hI
  cases dr : heapOk H
  · have R0 := OX.mono (fun e w' (g : _ ∧ _ ∧ _) => (⟨g.1 dr, g.2.2⟩ : e = .returned (.tuple #[hov0, .bool false]) ∧ Below _ _ w'))
    have e : scavOk H = hp0 := by unfold scavOk; rw [if_neg (by rw [dr]; decide)]
    rw [e]
    clear dr e OX h hs hI B0 B1
    go_enter Tryz.func46, Tryz.ntmps46
    go_upto_region 1 with fail
    generalize (w.alloc _).alloc _ = X at *
    obtain ⟨⟨z0, z1, z2, z3, z4⟩, ⟨z5, z6, z7, z8⟩, zf⟩ := nine_cells HT0.out
    clear zf
    go_upto_region 3 with (go_at_call 37; refine R0.mono ?_; clear R0 z0 z1 z2 z3 z4 z5 z6 z7 z8; rintro e w1 ⟨rfl, b1⟩; have HBE : Hid _ := HB1.out.trans (b1.mono HB1.out.size); have HN1 : Hid _ := nine_below HT1.out b1; clear b1)
    have BY : Below w1.heap.size w1 (w1.alloc (hob hz s0 s0 s0 s0 0 s0)) := (Below.refl _ _).alloc (Nat.le_refl _) _
    have HBY : Hid _ := HBE.out.trans (BY.mono HBE.out.size)
    have HNY : Hid _ := nine_below HN1.out BY
    clear BY HN1
    generalize w1.alloc (hob hz s0 s0 s0 s0 0 s0) = Y at *
    obtain ⟨⟨y0, y1, y2, y3, y4⟩, ⟨y5, y6, y7, y8⟩, yf⟩ := nine_cells HNY.out
    have f0 := yf 0
    have f1 := yf 1
    have f2 := yf 2
    have f3 := yf 3
    have f4 := yf 4
    have f5 := yf 5
    have f6 := yf 6
    have f7 := yf 7
    have f8 := yf 8
    clear yf
    go_wp2_with fail
    exact bodyPost_ret (res_heap2 rfl rfl rfl (nine_sets HNY.out _ _ _ _ _ _ _ _ _)) rfl ⟨_, _, _, _, rfl, own0 _ _, nine_belows HBY.out (by omega) _ _ _ _ _ _ _ _ _⟩
  · obtain ⟨ps, FP⟩ := folP_of (a := a1) dr
    have e : scavOk H = scavF H ps := by unfold scavOk; rw [if_pos dr, FP.rt.some', Option.getD_some]
    rw [e]
    have hrt := (ok_right dr).1
    have hse := (ok_right dr).2
    rw [← openB_is a1 H] at hrt
    obtain ⟨hn, hro, _⟩ := openB_parts hrt
    have hrl : 0 < H.row.length := by
      have N := (places_facts FP.rt.some').1
      have := N.len
      have := N.half1
      omega
    obtain ⟨b, off, ea, hbl, _⟩ := ints_cellI h.1 hrl
    subst ea
    have R0 := OX.mono (fun e w' (g : _ ∧ _ ∧ _) => (⟨g.2.1 dr, g.2.2⟩ : (∃ a5 c5, e = .returned (.tuple #[hov H (.slice (some ⟨b, off, none⟩) H.row.length c1) (.slice a2 H.roots.length c2) (.slice a3 H.mourned.length c3) (.slice a4 H.seen.length c4) (2 * H.half) (.slice a5 (objsP (some ⟨b, off, none⟩) H).length c5), .bool true]) ∧ OwnP w' _ (.slice a5 (objsP (some ⟨b, off, none⟩) H).length c5) (objsP (some ⟨b, off, none⟩) H)) ∧ Below _ _ w'))
    have HRA : Hid (∀ V v, HpAt V (.slice (some ⟨b, off, none⟩) H.row.length c1) (.slice a2 H.roots.length c2) (.slice a3 H.mourned.length c3) (.slice a4 H.seen.length c4) H → PdsAt V v (objsP (some ⟨b, off, none⟩) H) → RoomsAt V v (objsP (some ⟨b, off, none⟩) H) (slP H.row)) := fun V v h1 h2 => roomsAt_of h1.1 hn hro HII.out.2.1 h2
    have HST : Hid (∀ V a5 c5, HpAt V (.slice (some ⟨b, off, none⟩) H.row.length c1) (.slice a2 H.roots.length c2) (.slice a3 H.mourned.length c3) (.slice a4 H.seen.length c4) H → b < V.heap.size → PdsAt V (.slice a5 (objsP (some ⟨b, off, none⟩) H).length c5) (objsP (some ⟨b, off, none⟩) H) → Calls Tryz.prog 73 #[hov H (.slice (some ⟨b, off, none⟩) H.row.length c1) (.slice a2 H.roots.length c2) (.slice a3 H.mourned.length c3) (.slice a4 H.seen.length c4) (2 * H.half) (.slice a5 (objsP (some ⟨b, off, none⟩) H).length c5)] V fun e w' => ∃ C gr go gm mb, e = .returned (.pointer (some ⟨C, 0, none⟩)) ∧ CaF V H ps b off c1 a2 a3 a4 a5 c2 c3 c4 c5 C gr go gm mb ∧ Ca V H b off c1 a2 a3 a4 a5 c2 c3 c4 c5 C gr go gm mb w' (sv0 H) H.roots H.mourned) := fun V a5 c5 h1 h2 h3 => start_any h1 HSZ.out (HRA.out V _ h1 h3) FP hro HII.out.2.1 h2
    have HSE : Hid _ := hse
    have HBL : Hid _ := hbl
    clear dr e OX h hs hI B0 B1 hrt hse hn hro hrl hbl FP HRA
    go_enter Tryz.func46, Tryz.ntmps46
    go_upto_region 1 with fail
    generalize (w.alloc _).alloc _ = X at *
    obtain ⟨⟨z0, z1, z2, z3, z4⟩, ⟨z5, z6, z7, z8⟩, zf⟩ := nine_cells HT0.out
    clear zf
    go_upto_region 4 with (go_at_call 37; refine R0.mono ?_; clear R0 z0 z1 z2 z3 z4 z5 z6 z7 z8; rintro e w1 ⟨⟨a5, c5, rfl, O1⟩, b1⟩; have HB2 : Hid _ := HB1.out.trans (b1.mono HB1.out.size); have HX2 : Hid _ := b1.size; have HH1 : Hid _ := hpAt_below HHX.out b1; have HO1 : Hid _ := ownP_at O1; have HN1 : Hid _ := nine_below HT1.out b1; clear b1 O1)
    have BY : Below w1.heap.size w1 (w1.alloc (hob H (.slice (some ⟨b, off, none⟩) H.row.length c1) (.slice a2 H.roots.length c2) (.slice a3 H.mourned.length c3) (.slice a4 H.seen.length c4) (2 * H.half) (.slice a5 (objsP (some ⟨b, off, none⟩) H).length c5))) := (Below.refl _ _).alloc (Nat.le_refl _) _
    have HQY : Hid _ := heap_alloc_new w1 (hob H (.slice (some ⟨b, off, none⟩) H.row.length c1) (.slice a2 H.roots.length c2) (.slice a3 H.mourned.length c3) (.slice a4 H.seen.length c4) (2 * H.half) (.slice a5 (objsP (some ⟨b, off, none⟩) H).length c5))
    have HBY : Hid _ := HB2.out.trans (BY.mono HB2.out.size)
    have HNY : Hid _ := nine_below HN1.out BY
    have HHY : Hid _ := hpAt_below HH1.out BY
    have HOY : Hid _ := pdsAt_below HO1.out BY
    have HSY : Hid (w.heap.size + 2 ≤ (w1.alloc (hob H (.slice (some ⟨b, off, none⟩) H.row.length c1) (.slice a2 H.roots.length c2) (.slice a3 H.mourned.length c3) (.slice a4 H.seen.length c4) (2 * H.half) (.slice a5 (objsP (some ⟨b, off, none⟩) H).length c5))).heap.size) := by show _ ≤ _; have := HsX.out; have := HX2.out; have := BY.size; omega
    clear BY HN1 HB2 HX2 HH1 HO1 HT0 HT1 HHX HB1 HsX
    generalize w1.alloc (hob H (.slice (some ⟨b, off, none⟩) H.row.length c1) (.slice a2 H.roots.length c2) (.slice a3 H.mourned.length c3) (.slice a4 H.seen.length c4) (2 * H.half) (.slice a5 (objsP (some ⟨b, off, none⟩) H).length c5)) = Y at *
    have ST := HST.out Y a5 c5 HHY.out (by have := HBL.out; have := HSY.out; omega) HOY.out
    obtain ⟨⟨m0, m1, m2, m3, m4, m5, m6, m7, m8, m9, m10⟩, mf⟩ := hob_cells HQY.out
    clear mf HST
    go_upto_region 5 with (go_at_call 73; refine ST.mono ?_; clear ST m0 m1 m2 m3 m4 m5 m6 m7 m8 m9 m10; rintro e w2 ⟨C, gr, go, gm, mb, rfl, hF, hK⟩; have HF : Hid _ := hF; have HK : Hid _ := hK; clear hF hK)
    have CA := carryAll_any HF.out HK.out HII.out.2.2.1 HII.out.2.2.2.1 HSE.out
    go_upto_region 6 with (go_at_call 74; refine CA.mono ?_; clear CA HK; rintro e w3 ⟨rfl, hK⟩; have HK : Hid _ := hK; clear hK)
    have EN := end_any HF.out HK.out
    go_upto_region 7 with (go_at_call 75; refine EN.mono ?_; clear EN HK; rintro e w4 ⟨ua, un, uc, rfl, hb4, hO4, hB4⟩; have HC4 : Hid _ := hb4; have HO4 : Hid _ := hO4; have HB4 : Hid _ := hB4; clear hb4 hO4 hB4)
    have HN4 : Hid _ := (HB4.out.block _ (by have := HSY.out; omega)).trans HNY.out
    obtain ⟨⟨z0, z1, z2, z3, z4, z5, z6, z7, z8, z9, z10, z11, z12, z13, z14, z15, z16, z17, z18, z19, z20⟩, zf⟩ := cab_cells HC4.out
    obtain ⟨⟨y0, y1, y2, y3, y4⟩, ⟨y5, y6, y7, y8⟩, yf⟩ := nine_cells HN4.out
    have f0 := yf 0
    have f1 := yf 1
    have f2 := yf 2
    have f3 := yf 3
    have f4 := yf 4
    have f5 := yf 5
    have f6 := yf 6
    have f7 := yf 7
    have f8 := yf 8
    clear yf zf
    go_wp2_with fail
    refine bodyPost_ret (res_heap2 rfl rfl rfl (nine_sets HN4.out _ _ _ _ _ _ _ _ _)) rfl ⟨_, _, _, _, rfl, ?_, nine_belows (HBY.out.trans (HB4.out.mono HBY.out.size)) (by omega) _ _ _ _ _ _ _ _ _⟩
    exact ownH_base (ownH_ch (S := [w.heap.size + 1]) HO4.out (nine_other _ _ _ _ _ _ _ _ _) (fun k hk => by have := hblk_ge HO4.out k hk; have := HSY.out; simp; omega)) (by have := HSY.out; omega)
end Go.Proofs.YtmhbdmmpmagbkaaGreat.hp
namespace Go.Proofs.YtmhbdmmpmagbkaaGreat.hp
open Go.RowKit rows heads words walks region Go.Maps
set_option maxRecDepth 100000
set_option linter.unusedVariables false
set_option linter.unusedSimpArgs false

set_option maxHeartbeats 16000000 in
theorem implScavenged {H : Hp} (hI : HpI H) (w : World) (vr vo vm vs : Value) (h : HpAt w vr vo vm vs H) (hs : hpSize H ≤ 1048576) :
    Calls Tryz.prog 19 #[hpv H vr vo vm vs] w fun e w' => ∃ (o' r' m' s' : Value), e = .returned (hpv (scavOk H) o' r' m' s') ∧ OwnH w' w.heap.size o' r' m' s' (scavOk H) ∧ Below w.heap.size w w' := by
  obtain ⟨a1, c1, a2, c2, a3, c3, a4, c4, e1, e2, e3, e4⟩ := hpAt_slices h
  subst e1 e2 e3 e4
  have B0 : Below w.heap.size w (w.alloc (hpb H (.slice a1 H.row.length c1) (.slice a2 H.roots.length c2) (.slice a3 H.mourned.length c3) (.slice a4 H.seen.length c4))) := (Below.refl _ _).alloc (Nat.le_refl _) _
  have B1 := B0.alloc B0.size (hpb ⟨0, 0, [], 0, 0, [], [], [], 0⟩ (.slice none 0 0) (.slice none 0 0) (.slice none 0 0) (.slice none 0 0))
  have HT0 : Hid (Nine ((w.alloc (hpb H (.slice a1 H.row.length c1) (.slice a2 H.roots.length c2) (.slice a3 H.mourned.length c3) (.slice a4 H.seen.length c4))).alloc (hpb ⟨0, 0, [], 0, 0, [], [], [], 0⟩ (.slice none 0 0) (.slice none 0 0) (.slice none 0 0) (.slice none 0 0))) w.heap.size 31 (.int .i64 H.half) (.int .i64 H.old) (.slice a1 H.row.length c1) (.int .i64 H.side) (.int .i64 H.top) (.slice a2 H.roots.length c2) (.slice a3 H.mourned.length c3) (.slice a4 H.seen.length c4) (.int .i64 H.seed)) := heap_alloc2_old _ _ _
  have HT1 : Hid (Nine ((w.alloc (hpb H (.slice a1 H.row.length c1) (.slice a2 H.roots.length c2) (.slice a3 H.mourned.length c3) (.slice a4 H.seen.length c4))).alloc (hpb ⟨0, 0, [], 0, 0, [], [], [], 0⟩ (.slice none 0 0) (.slice none 0 0) (.slice none 0 0) (.slice none 0 0))) (w.heap.size + 1) 31 (.int .i64 0) (.int .i64 0) (.slice none 0 0) (.int .i64 0) (.int .i64 0) (.slice none 0 0) (.slice none 0 0) (.slice none 0 0) (.int .i64 0)) := heap_alloc2_new _ _ _
  have HsX : Hid (w.heap.size + 2 ≤ ((w.alloc (hpb H (.slice a1 H.row.length c1) (.slice a2 H.roots.length c2) (.slice a3 H.mourned.length c3) (.slice a4 H.seen.length c4))).alloc (hpb ⟨0, 0, [], 0, 0, [], [], [], 0⟩ (.slice none 0 0) (.slice none 0 0) (.slice none 0 0) (.slice none 0 0))).heap.size) := by show _ ≤ _; simp
  have HB1 : Hid _ := B1
  have SV := scavenged_any hI _ _ _ _ _ (hpAt_below h B1) hs
  obtain ⟨R, hR⟩ : ∃ R, scavOk H = R := ⟨_, rfl⟩
  obtain ⟨bk, hbk⟩ : ∃ bk, heapOk H = bk := ⟨_, rfl⟩
  rw [hR] at SV ⊢
  rw [hbk] at SV
  clear B0 B1 h hs hI hR hbk
  go_enter Tryz.func19, Tryz.ntmps19
  go_upto_region 1 with fail
  generalize (w.alloc _).alloc _ = X at *
  obtain ⟨⟨z0, z1, z2, z3, z4⟩, ⟨z5, z6, z7, z8⟩, zf⟩ := nine_cells HT0.out
  clear zf
  go_upto_region 2 with (go_at_call 46; refine SV.mono ?_; clear SV z0 z1 z2 z3 z4 z5 z6 z7 z8; rintro e w1 ⟨o', r', m', s', rfl, hO, b1⟩; obtain ⟨d1, n1, k1, rfl⟩ := ints_slice (own_ints hO.1.1); obtain ⟨d2, n2, k2, rfl⟩ := ints_slice (own_ints hO.1.2.1); obtain ⟨d3, n3, k3, rfl⟩ := ints_slice (own_ints hO.1.2.2.1); obtain ⟨d4, n4, k4, rfl⟩ := ints_slice (own_ints hO.1.2.2.2); have HO : Hid _ := hO; have HBE : Hid _ := HB1.out.trans (b1.mono HB1.out.size); have HN1 : Hid _ := nine_below HT1.out b1; have HX1 : Hid _ := b1.size; clear hO b1)
  have BY : Below w1.heap.size w1 (w1.alloc (hpb R (.slice d1 n1 k1) (.slice d2 n2 k2) (.slice d3 n3 k3) (.slice d4 n4 k4))) := (Below.refl _ _).alloc (Nat.le_refl _) _
  have HBY : Hid _ := HBE.out.trans (BY.mono HBE.out.size)
  have HNY : Hid _ := nine_below HN1.out BY
  have HOY : Hid _ := ownH_below HO.out BY
  have HRY : Hid _ := nine_new w1 R (.slice d1 n1 k1) (.slice d2 n2 k2) (.slice d3 n3 k3) (.slice d4 n4 k4)
  clear BY HN1 HO HBE
  generalize w1.alloc (hpb R (.slice d1 n1 k1) (.slice d2 n2 k2) (.slice d3 n3 k3) (.slice d4 n4 k4)) = Y at *
  generalize w1.heap.size = q1 at *
  obtain ⟨⟨z0, z1, z2, z3, z4⟩, ⟨z5, z6, z7, z8⟩, zf⟩ := nine_cells HRY.out
  obtain ⟨⟨y0, y1, y2, y3, y4⟩, ⟨y5, y6, y7, y8⟩, yf⟩ := nine_cells HNY.out
  have f0 := yf 0
  have f1 := yf 1
  have f2 := yf 2
  have f3 := yf 3
  have f4 := yf 4
  have f5 := yf 5
  have f6 := yf 6
  have f7 := yf 7
  have f8 := yf 8
  clear yf zf
  go_wp2_with fail
  refine bodyPost_ret (res_heap rfl rfl (nine_sets HNY.out _ _ _ _ _ _ _ _ _)) rfl ⟨_, _, _, _, rfl, ?_, nine_belows HBY.out (by omega) _ _ _ _ _ _ _ _ _⟩
  exact ownH_base (ownH_ch (S := [w.heap.size + 1]) HOY.out (nine_other _ _ _ _ _ _ _ _ _) (fun k hk => by have := hblk_ge HOY.out k hk; have := HsX.out; simp; omega)) (by have := HsX.out; omega)
set_option maxHeartbeats 16000000 in
theorem implCarried {H : Hp} (hI : HpI H) (w : World) (vr vo vm vs : Value) (h : HpAt w vr vo vm vs H) (hs : hpSize H ≤ 1048576) :
    Calls Tryz.prog 22 #[hpv H vr vo vm vs] w fun e w' => e = .returned (.int .i64 (carOk H)) ∧ Below w.heap.size w w' := by
  obtain ⟨a1, c1, a2, c2, a3, c3, a4, c4, e1, e2, e3, e4⟩ := hpAt_slices h
  subst e1 e2 e3 e4
  obtain ⟨B0, q0, hX⟩ := hp_all h
  obtain ⟨z0, z1, z2, z3, z4, z5, z6, z7, z8⟩ := hpb_cells q0
  have SV := scavenged_any hI _ _ _ _ _ hX hs
  have HB0 : Hid _ := B0
  have hc : heapOk H = true → carOk H = (scavOk H).top := fun e => by unfold carOk scavOk; rw [if_pos e, if_pos e]; rfl
  have hc' : heapOk H = false → carOk H = -1 := fun e => by unfold carOk; rw [if_neg (by rw [e]; decide)]
  obtain ⟨R, hR⟩ : ∃ R, scavOk H = R := ⟨_, rfl⟩
  obtain ⟨A, hA⟩ : ∃ A, carOk H = A := ⟨_, rfl⟩
  rw [hR] at SV hc
  rw [hA] at hc hc' ⊢
  clear h hs hI B0 q0 hX hR hA
  cases dr : heapOk H
  · have e := hc' dr
    subst e
    rw [dr] at SV
    clear hc hc' dr
    go_enter Tryz.func22, Tryz.ntmps22
    go_wp2_with (go_at_call 46; refine SV.mono ?_; clear SV z0 z1 z2 z3 z4 z5 z6 z7 z8; rintro e w1 ⟨o', r', m', s', rfl, hO, b1⟩; obtain ⟨d1, n1, k1, rfl⟩ := ints_slice (own_ints hO.1.1); obtain ⟨d2, n2, k2, rfl⟩ := ints_slice (own_ints hO.1.2.1); obtain ⟨d3, n3, k3, rfl⟩ := ints_slice (own_ints hO.1.2.2.1); obtain ⟨d4, n4, k4, rfl⟩ := ints_slice (own_ints hO.1.2.2.2); have HBE : Hid _ := HB0.out.trans (b1.mono HB0.out.size); clear hO b1)
    go_ret
    exact ⟨rfl, HBE.out.alloc HBE.out.size _⟩
  · have e := hc dr
    subst e
    rw [dr] at SV
    clear hc hc' dr
    go_enter Tryz.func22, Tryz.ntmps22
    go_upto_region 2 with (go_at_call 46; refine SV.mono ?_; clear SV z0 z1 z2 z3 z4 z5 z6 z7 z8; rintro e w1 ⟨o', r', m', s', rfl, hO, b1⟩; obtain ⟨d1, n1, k1, rfl⟩ := ints_slice (own_ints hO.1.1); obtain ⟨d2, n2, k2, rfl⟩ := ints_slice (own_ints hO.1.2.1); obtain ⟨d3, n3, k3, rfl⟩ := ints_slice (own_ints hO.1.2.2.1); obtain ⟨d4, n4, k4, rfl⟩ := ints_slice (own_ints hO.1.2.2.2); have HBE : Hid _ := HB0.out.trans (b1.mono HB0.out.size); clear hO b1)
    have HBY : Hid _ := HBE.out.alloc HBE.out.size (hpb R (.slice d1 n1 k1) (.slice d2 n2 k2) (.slice d3 n3 k3) (.slice d4 n4 k4))
    have HRY : Hid _ := nine_new w1 R (.slice d1 n1 k1) (.slice d2 n2 k2) (.slice d3 n3 k3) (.slice d4 n4 k4)
    clear HBE
    generalize w1.alloc (hpb R (.slice d1 n1 k1) (.slice d2 n2 k2) (.slice d3 n3 k3) (.slice d4 n4 k4)) = Y at *
    generalize w1.heap.size = q1 at *
    obtain ⟨⟨z0, z1, z2, z3, z4⟩, ⟨z5, z6, z7, z8⟩, zf⟩ := nine_cells HRY.out
    clear zf
    go_wp2_with fail
    go_ret
    exact ⟨rfl, HBY.out⟩
end Go.Proofs.YtmhbdmmpmagbkaaGreat.hp
