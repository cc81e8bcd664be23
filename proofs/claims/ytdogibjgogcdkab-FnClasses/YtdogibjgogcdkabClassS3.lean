/-
  Chapter 5 as the specification has it: Claimed.
  Made from the template ClassS3.
-/
import Derived.Test.YtdogibjgogcdkabClassS2
namespace Go.Proofs.Ytdogibjgogcdkab.ents
open Go.RowKit rows heads

theorem findN_yes {es : List Ent} {name : ByteArray} {i : Nat} (hi : i < es.length) (h : eqN (es.getD i entD).2 name = true) (hn : ∀ m, m < i → eqN (es.getD m entD).2 name = false) : findN es name = some i := by
  unfold findN
  rw [List.find?_range_eq_some]
  exact ⟨h, List.mem_range.2 hi, fun j hj => by rw [hn j hj]; rfl⟩
theorem findN_none {es : List Ent} {name : ByteArray} (hn : ∀ m, m < es.length → eqN (es.getD m entD).2 name = false) : findN es name = none := by
  unfold findN
  rw [List.find?_range_eq_none]
  exact fun j hj => by rw [hn j hj]; rfl
theorem freeK_step {es : List Ent} {k : Nat} (h : k < es.length) (e : (es.getD k entD).1 = (k : Int)) : freeK (es.drop k) k = freeK (es.drop (k + 1)) (k + 1) := by
  have ed : es.drop k = es.getD k entD :: es.drop (k + 1) := by
    rw [List.drop_eq_getElem_cons h, List.getD_eq_getElem?_getD, List.getElem?_eq_getElem h]; rfl
  rw [ed, freeK, if_pos e]
theorem freeK_stop {es : List Ent} {k : Nat} (h : k < es.length) (e : ¬ (es.getD k entD).1 = (k : Int)) : freeK (es.drop k) k = k := by
  have ed : es.drop k = es.getD k entD :: es.drop (k + 1) := by
    rw [List.drop_eq_getElem_cons h, List.getD_eq_getElem?_getD, List.getElem?_eq_getElem h]; rfl
  rw [ed, freeK, if_neg e]
theorem freeK_le : ∀ (es : List Ent) (k : Nat), k ≤ freeK es k ∧ freeK es k ≤ k + es.length
  | [], k => by simp [freeK]
  | e :: es, k => by
    have := freeK_le es (k + 1)
    unfold freeK
    split
    · simp; omega
    · simp

/-- Is there room for a new one of this name? -/
def roomN (es : List Ent) (name : ByteArray) : Bool := inR 1 20 (name.size : Int) && !decide (es.length = 40)
def clmIx (es : List Ent) (name : ByteArray) : Int :=
  if clsOk es = true then (match findN es name with | some i => (es.getD i entD).1 | none => if roomN es name = true then ((freeK es 0 : Nat) : Int) else -1) else -1
def clm (es : List Ent) (name : ByteArray) : List Ent :=
  if clsOk es = true then (match findN es name with | some _ => es | none => if roomN es name = true then es.take (freeK es 0) ++ [(((freeK es 0 : Nat) : Int), name)] ++ es.drop (freeK es 0) else es) else []

theorem clm_no {es : List Ent} {name : ByteArray} (d : clsOk es = false) : clmIx es name = -1 ∧ clm es name = [] := by unfold clmIx clm; rw [d]; exact ⟨rfl, rfl⟩
theorem clm_has {es : List Ent} {name : ByteArray} (d : clsOk es = true) {i : Nat} (h : findN es name = some i) : clmIx es name = (es.getD i entD).1 ∧ clm es name = es := by unfold clmIx clm; rw [d, h]; exact ⟨rfl, rfl⟩
theorem clm_full {es : List Ent} {name : ByteArray} (d : clsOk es = true) (h : findN es name = none) (r : roomN es name = false) : clmIx es name = -1 ∧ clm es name = es := by unfold clmIx clm; rw [d, h, r]; exact ⟨rfl, rfl⟩
theorem clm_new {es : List Ent} {name : ByteArray} (d : clsOk es = true) (h : findN es name = none) (r : roomN es name = true) : clmIx es name = ((freeK es 0 : Nat) : Int) ∧ clm es name = es.take (freeK es 0) ++ [(((freeK es 0 : Nat) : Int), name)] ++ es.drop (freeK es 0) := by unfold clmIx clm; rw [d, h, r]; exact ⟨rfl, rfl⟩

set_option maxHeartbeats 8000000 in
theorem sClaimed_any {w : World} {v : Value} {es : List Ent} (h : EntsAt w v es) (hb : Borne es) (name : ByteArray) (_hname : name.size ≤ 9223372036854775807) :
    Calls Try.prog 22 #[v, .string name] w fun e w' => ∃ v', e = .returned (.tuple #[v', .int .i64 (clmIx es name)]) ∧ OwnE w' w.heap.size v' (clm es name) ∧ Below w.heap.size w w' := by
  have CK := sClassesOk_any h hb
  cases d : clsOk es
  · rw [(clm_no d).1, (clm_no d).2]
    rw [d] at CK
    go_enter Try.func22, Try.ntmps22
    go_wp2_with fail
    refine CK.mono ?_
    rintro e w1 ⟨rfl, b1⟩
    have HO : Hid (OwnE (w1.alloc (.cells #[] 49)) w.heap.size (.slice (some ⟨w1.heap.size, 0, none⟩) 0 0) []) := ownE_new b1
    have HB : Hid _ := b1.alloc b1.size (.cells #[] 49)
    clear b1 CK
    go_wp2
    go_ret2
    exact ⟨_, rfl, HO, HB⟩
  · have h40 := (clsOk_at d).1
    rw [d] at CK
    obtain ⟨RX, hRX⟩ : ∃ RX, clmIx es name = RX := ⟨_, rfl⟩
    obtain ⟨RL, hRL⟩ : ∃ RL, clm es name = RL := ⟨_, rfl⟩
    rw [hRX, hRL]
    have HRX : Hid _ := hRX
    have HRL : Hid _ := hRL
    clear hRX hRL
    have h' := h
    obtain ⟨a, cap, rfl, hlc, hcm, _, hc⟩ := h
    have hcm' : cap ≤ 9223372036854775807 := hcm
    have HC : Hid _ := hc
    clear hc
    go_enter Try.func22, Try.ntmps22
    go_wp2_with fail
    refine CK.mono ?_
    rintro e w1 ⟨rfl, b1⟩
    have E1 := entsAt_below h' (b1.alloc b1.size (.cells #[] 49))
    have N1 := ownE_new b1
    have HB1 : Hid _ := b1.alloc b1.size (.cells #[] 49)
    clear b1 CK
    go_wp2_with (at_builtin; refine wpList_appE (wb := w) HB1.out N1 E1 (by omega) rfl _ _ rfl rfl rfl ?_; intro go co w2 hO2 hB2)
    rw [Nat.zero_add, List.nil_append] at hO2
    have HO2 : Hid (OwnE w2 w.heap.size (.slice (some ⟨go, 0, none⟩) es.length co) es) := hO2
    have HB2 : Hid _ := hB2
    clear hO2 hB2 E1 N1 HB1
    go_loopw [7] (fun p wr => ∃ i : Nat, i ≤ es.length ∧ p = .int .i64 i ∧ (∀ m, m < i → eqN (es.getD m entD).2 name = false) ∧ wr = w2) (fun p _ => es.length - (intOf p).toNat)
    case atStart => exact ⟨0, Nat.zero_le _, rfl, fun m hm => by omega, rfl⟩
    case round =>
      obtain ⟨i, hi, rfl, hne, hw⟩ := hrel
      rw [hw]
      clear hw
      have HNE : Hid _ := hne
      clear hne
      by_cases hlt : i < es.length
      · obtain ⟨b, off, rfl, hbl, hc⟩ := HC.out (by omega)
        have c0 := (HB2.out.cell (p := ⟨b, off + i * 2, none⟩) hbl).trans (hc i hlt).1
        have c1 := (HB2.out.cell (p := ⟨b, off + i * 2 + 1, none⟩) hbl).trans (hc i hlt).2
        have HA : Hid (eqN (es.getD i entD).2 name = true → RX = (es.getD i entD).1 ∧ RL = es) := fun e => by
          have c := clm_has d (findN_yes hlt e HNE.out)
          rw [← HRX.out, ← HRL.out]
          exact c
        have HN2 : Hid (eqN (es.getD i entD).2 name = false → ∀ m, m < i + 1 → eqN (es.getD m entD).2 name = false) := fun e m hm => by
          by_cases e' : m = i
          · rw [e']; exact e
          · exact HNE.out m (by omega)
        clear hc HC HNE HRX HRL
        generalize es.getD i entD = y at *
        obtain ⟨y, s⟩ := y
        cases dE : eqN s name
        · have dE' : (s.toList == name.toList) = false := dE
          have HN3 : Hid _ := HN2.out dE
          clear HN2 HA
          go_wp2
          exact ⟨⟨i + 1, by omega, by go_num, HN3, by simp⟩, by simp [intOf]; omega⟩
        · have dE' : (s.toList == name.toList) = true := dE
          have HE : Hid _ := HA.out dE
          clear HN2 HA
          go_wp2
          go_quiet (fail)
          go_wp2
          go_ret2
          exact ⟨_, by rw [HE.out.1]; rfl, by rw [HE.out.2]; exact HO2, bel_drewN HB2.out⟩
      · have FN := findN_none (es := es) (name := name) (fun m hm => HNE.out m (by omega))
        have L1 := l1In_any (name.size : Int) 1 20
        have RM : roomN es name = (inR 1 20 (name.size : Int) && !decide (es.length = 40)) := rfl
        clear HNE
        cases dB : inR 1 20 (name.size : Int)
        · have r : roomN es name = false := by rw [RM, dB]; rfl
          have c := clm_full d FN r
          rw [HRX.out, HRL.out] at c
          have HE : Hid _ := c
          rw [dB] at L1
          clear c HRX HRL HC RM
          go_wp2_with (go_at_call 93; refine (L1 _).mono ?_; rintro e w3 ⟨rfl, hw3⟩; rw [hw3]; clear hw3 w3)
          go_ret2
          exact ⟨_, by rw [HE.out.1]; rfl, by rw [HE.out.2]; exact HO2, HB2⟩
        · rw [dB] at L1
          by_cases h4 : es.length = 40
          · have r : roomN es name = false := by rw [RM, dB, h4]; rfl
            have c := clm_full d FN r
            rw [HRX.out, HRL.out] at c
            have HE : Hid _ := c
            have h4' : ((es.length : Int) == 40) = true := by simp; omega
            clear c HRX HRL HC RM h4
            go_wp2_with (go_at_call 93; refine (L1 _).mono ?_; rintro e w3 ⟨rfl, hw3⟩; rw [hw3]; clear hw3 w3)
            go_ret2
            exact ⟨_, by rw [HE.out.1]; rfl, by rw [HE.out.2]; exact HO2, HB2⟩
          · have r : roomN es name = true := by rw [RM, dB, decide_eq_false h4]; rfl
            have c := clm_new d FN r
            rw [HRX.out, HRL.out] at c
            have HE : Hid _ := c
            have h4' : ((es.length : Int) == 40) = false := by simp; omega
            clear c HRX HRL RM
            go_wp2_with (go_at_call 93; refine (L1 _).mono ?_; rintro e w3 ⟨rfl, hw3⟩; rw [hw3]; clear hw3 w3)
            go_loopw [8] (fun p wr => ∃ k : Nat, k ≤ es.length ∧ p = .int .i64 k ∧ freeK es 0 = freeK (es.drop k) k ∧ wr = w2) (fun p _ => es.length - (intOf p).toNat)
            case atStart => exact ⟨0, Nat.zero_le _, rfl, rfl, rfl⟩
            case round =>
              obtain ⟨k, hk, rfl, hfk, hw⟩ := hrel
              rw [hw]
              clear hw
              have HFK : Hid _ := hfk
              clear hfk
              by_cases hlk : k < es.length
              · obtain ⟨b, off, rfl, hbl, hc⟩ := HC.out (by omega)
                have c0 := (HB2.out.cell (p := ⟨b, off + k * 2, none⟩) hbl).trans (hc k hlk).1
                have hlk' : (k : Int) < (es.length : Int) := by omega
                by_cases hek : (es.getD k entD).1 = (k : Int)
                · have HF2 : Hid (freeK es 0 = freeK (es.drop (k + 1)) (k + 1)) := HFK.out.trans (freeK_step hlk hek)
                  have hek' : ((es.getD k entD).1 == (k : Int)) = true := by simpa using hek
                  clear HFK hc HC hek
                  generalize (es.getD k entD).1 = y at *
                  go_wp2
                  exact ⟨⟨k + 1, by omega, by go_num, HF2, by simp⟩, by simp [intOf]; omega⟩
                · have HF2 : Hid (freeK es 0 = k) := HFK.out.trans (freeK_stop hlk hek)
                  have hek' : ((es.getD k entD).1 == (k : Int)) = false := by simpa using hek
                  clear HFK hc HC hek
                  generalize (es.getD k entD).1 = y at *
                  have hco : es.length ≤ co := by
                    obtain ⟨_, c2, e2, hle, _, _, _⟩ := ownE_ents HO2.out
                    injection e2 with _ _ e3
                    omega
                  have hcb : co ≤ 9223372036854775807 := by
                    obtain ⟨_, c2, e2, _, hle, _, _⟩ := ownE_ents HO2.out
                    injection e2 with _ _ e3
                    have hle : c2 ≤ 9223372036854775807 := hle
                    omega
                  have hck : ¬ co = k := by omega
                  rw [HF2.out] at HE
                  have HE2 : Hid (RX = (k : Int) ∧ RL = es.take k ++ [((k : Int), name)] ++ es.drop k) := HE
                  clear HE HF2 FN L1 r
                  have HF1 : Hid _ := ents_from (k := k) (ownE_ents (ownE_below HO2.out ((Below.refl _ w2).alloc (Nat.le_refl _) (.cells #[] 49)))) rfl hk (some ⟨go, k * 2, none⟩) (.inr rfl)
                  have HN1 : Hid _ := ownE_new (Below.refl w2.heap.size w2)
                  have HB1 : Hid _ := (Below.refl w2.heap.size w2).alloc (Nat.le_refl _) (.cells #[] 49)
                  go_wp2_with (first
                    | (at_builtin; refine wpList_appN (wb := w2) (by rw [List.length_drop]) HB1.out HN1.out HF1.out (by omega) rfl _ _ rfl rfl rfl ?_; intro gr cr w3 hO3 hB3
                       clear HF1 HN1 HB1
                       have B3 := (Below.refl w3.heap.size w3).alloc (Nat.le_refl _) (.cells #[] 49)
                       have O3 := ownE_below HO2.out (hB3.mono (Nat.le_refl _))
                       have HU3 : Hid _ := ents_upto (k := k) (ownE_ents (ownE_below O3 B3)) rfl hk
                       have HN3 : Hid _ := ownE_new (Below.refl w3.heap.size w3)
                       have HB3 : Hid _ := B3
                       have R3 : OwnE w3 w2.heap.size (.slice (some ⟨gr, 0, none⟩) (es.length - k) cr) (es.drop k) := by
                         have e0 : (es.drop k).length = es.length - k := by rw [List.length_drop]
                         rw [Nat.zero_add] at hO3
                         show World.ownsRow _ _ _ _ _ _ _
                         rw [e0]
                         exact hO3
                       have HR3 : Hid _ := R3
                       have HW3 : Hid _ := HB2.out.trans (hB3.mono HB2.out.size)
                       clear B3 O3 hO3 hB3 R3)
                    | (at_builtin; refine wpList_appN (wb := w3) (by rw [List.length_take]; omega) HB3.out HN3.out HU3.out (by omega) rfl _ _ rfl rfl rfl ?_; intro g4 c4 w4 hO4 hB4
                       clear HU3 HN3 HB3
                       simp only [Nat.zero_add, List.nil_append] at hO4
                       have HO4 : Hid _ := World.ownsRow.alloc hO4 (eb ((k : Int), name))
                       have HE4 : Hid _ := ent_one w4 ((k : Int), name)
                       have HB4 : Hid _ := hB4.alloc hB4.size (eb ((k : Int), name))
                       clear hO4 hB4)
                    | (at_builtin; refine wpList_appN (wb := w3) (m := 1) rfl HB4.out HO4.out HE4.out (by omega) rfl _ _ rfl rfl rfl ?_; intro g5 c5 w5 hO5 hB5
                       clear HO4 HE4 HB4
                       have HO5 : Hid _ := hO5
                       have HB5 : Hid _ := hB5
                       have HR5 : Hid _ := ownE_ents (ownE_below HR3.out (hB5.mono (Nat.le_refl _)))
                       clear hO5 hB5)
                    | (at_builtin; refine wpList_appN (wb := w3) (by rw [List.length_drop]) HB5.out HO5.out HR5.out (by omega) rfl _ _ rfl rfl rfl ?_; intro g6 c6 w6 hO6 hB6
                       clear HO5 HB5 HR5 HR3))
                  have eL : (es.take k ++ [((k : Int), name)] ++ es.drop k).length = k + 1 + (es.length - k) := by simp; omega
                  have O7 : OwnE w6 w3.heap.size (.slice (some ⟨g6, 0, none⟩) (k + 1 + (es.length - k)) c6) (es.take k ++ [((k : Int), name)] ++ es.drop k) := by
                    show World.ownsRow _ _ _ _ _ _ _
                    rw [eL]
                    exact hO6
                  have hw3 := HW3.out.size
                  go_ret2
                  exact ⟨_, by rw [HE2.out.1]; rfl, by rw [HE2.out.2]; exact ownE_base O7 hw3, HW3.out.trans (hB6.mono hw3)⟩
              · have hkl : k = es.length := by omega
                have HF2 : Hid (freeK es 0 = k) := by
                  have e := HFK.out
                  rw [List.drop_eq_nil_of_le (by omega), freeK] at e
                  exact e
                have hlk' : ¬ (k : Int) < (es.length : Int) := by omega
                clear HFK HC
                have hco : es.length ≤ co := by
                  obtain ⟨_, c2, e2, hle, _, _, _⟩ := ownE_ents HO2.out
                  injection e2 with _ _ e3
                  omega
                have hcb : co ≤ 9223372036854775807 := by
                  obtain ⟨_, c2, e2, _, hle, _, _⟩ := ownE_ents HO2.out
                  injection e2 with _ _ e3
                  have hle : c2 ≤ 9223372036854775807 := hle
                  omega
                have HKL : Hid (k = es.length) := hkl
                clear hkl
                by_cases hck : co = k
                · subst hck
                  rw [HF2.out] at HE
                  have HE2 : Hid (RX = (co : Int) ∧ RL = es.take co ++ [((co : Int), name)] ++ es.drop co) := HE
                  clear HE HF2 FN L1 r
                  have f1 := ents_from (k := co) (ownE_ents (ownE_below HO2.out ((Below.refl _ w2).alloc (Nat.le_refl _) (.cells #[] 49)))) rfl hk (some ⟨go, 0, none⟩) (.inl ⟨rfl, HKL.out⟩)
                  rw [Nat.sub_self, show es.length - co = 0 by omega] at f1
                  have HF1 : Hid _ := f1
                  clear f1
                  have HN1 : Hid _ := ownE_new (Below.refl w2.heap.size w2)
                  have HB1 : Hid _ := (Below.refl w2.heap.size w2).alloc (Nat.le_refl _) (.cells #[] 49)
                  go_wp2_with (first
                    | (at_builtin; refine wpList_appN (wb := w2) (m := 0) (by rw [List.length_drop]; omega) HB1.out HN1.out HF1.out (by omega) rfl _ _ rfl rfl rfl ?_; intro gr cr w3 hO3 hB3
                       clear HF1 HN1 HB1
                       have B3 := (Below.refl w3.heap.size w3).alloc (Nat.le_refl _) (.cells #[] 49)
                       have O3 := ownE_below HO2.out (hB3.mono (Nat.le_refl _))
                       have HU3 : Hid _ := ents_upto (k := co) (ownE_ents (ownE_below O3 B3)) rfl hk
                       have HN3 : Hid _ := ownE_new (Below.refl w3.heap.size w3)
                       have HB3 : Hid _ := B3
                       have R3 : OwnE w3 w2.heap.size (.slice (some ⟨gr, 0, none⟩) 0 cr) (es.drop co) := by
                         have e0 : (es.drop co).length = 0 := by rw [List.length_drop]; omega
                         rw [Nat.zero_add] at hO3
                         show World.ownsRow _ _ _ _ _ _ _
                         rw [e0]
                         exact hO3
                       have HR3 : Hid _ := R3
                       have HW3 : Hid _ := HB2.out.trans (hB3.mono HB2.out.size)
                       clear B3 O3 hO3 hB3 R3)
                    | (at_builtin; refine wpList_appN (wb := w3) (by rw [List.length_take]; omega) HB3.out HN3.out HU3.out (by omega) rfl _ _ rfl rfl rfl ?_; intro g4 c4 w4 hO4 hB4
                       clear HU3 HN3 HB3
                       simp only [Nat.zero_add, List.nil_append] at hO4
                       have HO4 : Hid _ := World.ownsRow.alloc hO4 (eb ((co : Int), name))
                       have HE4 : Hid _ := ent_one w4 ((co : Int), name)
                       have HB4 : Hid _ := hB4.alloc hB4.size (eb ((co : Int), name))
                       clear hO4 hB4)
                    | (at_builtin; refine wpList_appN (wb := w3) (m := 1) rfl HB4.out HO4.out HE4.out (by omega) rfl _ _ rfl rfl rfl ?_; intro g5 c5 w5 hO5 hB5
                       clear HO4 HE4 HB4
                       have HO5 : Hid _ := hO5
                       have HB5 : Hid _ := hB5
                       have HR5 : Hid _ := ownE_ents (ownE_below HR3.out (hB5.mono (Nat.le_refl _)))
                       clear hO5 hB5)
                    | (at_builtin; refine wpList_appN (wb := w3) (m := 0) (by rw [List.length_drop]; omega) HB5.out HO5.out HR5.out (by omega) rfl _ _ rfl rfl rfl ?_; intro g6 c6 w6 hO6 hB6
                       clear HO5 HB5 HR5 HR3))
                  have eL : (es.take co ++ [((co : Int), name)] ++ es.drop co).length = co + 1 := by simp; omega
                  have O7 : OwnE w6 w3.heap.size (.slice (some ⟨g6, 0, none⟩) (co + 1) c6) (es.take co ++ [((co : Int), name)] ++ es.drop co) := by
                    show World.ownsRow _ _ _ _ _ _ _
                    rw [eL]
                    exact hO6
                  have hw3 := HW3.out.size
                  go_ret2
                  exact ⟨_, by rw [HE2.out.1]; rfl, by rw [HE2.out.2]; exact ownE_base O7 hw3, HW3.out.trans (hB6.mono hw3)⟩
                · have hck0 : ¬ co = k := hck
                  rw [HF2.out] at HE
                  have HE2 : Hid (RX = (k : Int) ∧ RL = es.take k ++ [((k : Int), name)] ++ es.drop k) := HE
                  clear HE HF2 FN L1 r
                  have HF1 : Hid _ := ents_from (k := k) (ownE_ents (ownE_below HO2.out ((Below.refl _ w2).alloc (Nat.le_refl _) (.cells #[] 49)))) rfl hk (some ⟨go, k * 2, none⟩) (.inr rfl)
                  have HN1 : Hid _ := ownE_new (Below.refl w2.heap.size w2)
                  have HB1 : Hid _ := (Below.refl w2.heap.size w2).alloc (Nat.le_refl _) (.cells #[] 49)
                  go_wp2_with (first
                    | (at_builtin; refine wpList_appN (wb := w2) (by rw [List.length_drop]) HB1.out HN1.out HF1.out (by omega) rfl _ _ rfl rfl rfl ?_; intro gr cr w3 hO3 hB3
                       clear HF1 HN1 HB1
                       have B3 := (Below.refl w3.heap.size w3).alloc (Nat.le_refl _) (.cells #[] 49)
                       have O3 := ownE_below HO2.out (hB3.mono (Nat.le_refl _))
                       have HU3 : Hid _ := ents_upto (k := k) (ownE_ents (ownE_below O3 B3)) rfl hk
                       have HN3 : Hid _ := ownE_new (Below.refl w3.heap.size w3)
                       have HB3 : Hid _ := B3
                       have R3 : OwnE w3 w2.heap.size (.slice (some ⟨gr, 0, none⟩) (es.length - k) cr) (es.drop k) := by
                         have e0 : (es.drop k).length = es.length - k := by rw [List.length_drop]
                         rw [Nat.zero_add] at hO3
                         show World.ownsRow _ _ _ _ _ _ _
                         rw [e0]
                         exact hO3
                       have HR3 : Hid _ := R3
                       have HW3 : Hid _ := HB2.out.trans (hB3.mono HB2.out.size)
                       clear B3 O3 hO3 hB3 R3)
                    | (at_builtin; refine wpList_appN (wb := w3) (by rw [List.length_take]; omega) HB3.out HN3.out HU3.out (by omega) rfl _ _ rfl rfl rfl ?_; intro g4 c4 w4 hO4 hB4
                       clear HU3 HN3 HB3
                       simp only [Nat.zero_add, List.nil_append] at hO4
                       have HO4 : Hid _ := World.ownsRow.alloc hO4 (eb ((k : Int), name))
                       have HE4 : Hid _ := ent_one w4 ((k : Int), name)
                       have HB4 : Hid _ := hB4.alloc hB4.size (eb ((k : Int), name))
                       clear hO4 hB4)
                    | (at_builtin; refine wpList_appN (wb := w3) (m := 1) rfl HB4.out HO4.out HE4.out (by omega) rfl _ _ rfl rfl rfl ?_; intro g5 c5 w5 hO5 hB5
                       clear HO4 HE4 HB4
                       have HO5 : Hid _ := hO5
                       have HB5 : Hid _ := hB5
                       have HR5 : Hid _ := ownE_ents (ownE_below HR3.out (hB5.mono (Nat.le_refl _)))
                       clear hO5 hB5)
                    | (at_builtin; refine wpList_appN (wb := w3) (by rw [List.length_drop]) HB5.out HO5.out HR5.out (by omega) rfl _ _ rfl rfl rfl ?_; intro g6 c6 w6 hO6 hB6
                       clear HO5 HB5 HR5 HR3))
                  have eL : (es.take k ++ [((k : Int), name)] ++ es.drop k).length = k + 1 + (es.length - k) := by simp; omega
                  have O7 : OwnE w6 w3.heap.size (.slice (some ⟨g6, 0, none⟩) (k + 1 + (es.length - k)) c6) (es.take k ++ [((k : Int), name)] ++ es.drop k) := by
                    show World.ownsRow _ _ _ _ _ _ _
                    rw [eL]
                    exact hO6
                  have hw3 := HW3.out.size
                  go_ret2
                  exact ⟨_, by rw [HE2.out.1]; rfl, by rw [HE2.out.2]; exact ownE_base O7 hw3, HW3.out.trans (hB6.mono hw3)⟩
end Go.Proofs.Ytdogibjgogcdkab.ents
