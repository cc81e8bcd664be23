/-
  Chapter 5 as the specification has it: ClassesOk.
  Made from the template ClassS.
-/
import Derived.Test.YtdogibjgogcdkabClassD
namespace Go.Proofs.Ytdogibjgogcdkab.ents
open Go.RowKit rows heads

theorem ebAt_new (w : World) (x : Int) (s : ByteArray) : (w.alloc (eb (x, s))).cell? ⟨w.heap.size, 0, none⟩ = some (.int .i64 x) ∧ (w.alloc (eb (x, s))).cell? ⟨w.heap.size, 1, none⟩ = some (.string s) := by
  have h : (w.alloc (eb (x, s))).heap[w.heap.size]? = some (.cells #[.int .i64 x, .string s] 49 (0, 0)) := heap_alloc_new w _
  generalize (w.alloc (eb (x, s))) = W at *
  refine ⟨?_, ?_⟩
  all_goals simp [World.cell?, h]

set_option maxRecDepth 100000 in
set_option maxHeartbeats 4000000 in
theorem sClassesOk_any {w : World} {v : Value} {es : List Ent} (h : EntsAt w v es) (hb : Borne es) :
    Calls Try.prog 25 #[v] w fun e w' => e = .returned (.bool (clsOk es)) ∧ Below w.heap.size w w' := by
  have h' := h
  obtain ⟨a, cap, rfl, hlc, hcm, _, hc⟩ := h
  have hcm' : cap ≤ 9223372036854775807 := hcm
  have HC : Hid _ := hc
  clear hc
  by_cases h40 : es.length ≤ 40
  · have h40' : ¬ (es.length : Int) > 40 := by omega
    obtain ⟨R, hR⟩ : ∃ R, clsOk es = R := ⟨_, rfl⟩
    rw [hR]
    have HR : Hid _ := hR
    clear hR
    go_enter Try.func25, Try.ntmps25
    go_wp2_with fail
    go_loopw [3] (fun q wr => ∃ i : Nat, i ≤ es.length ∧ q = .int .i64 i ∧ (∀ k, k < i → entOk es k = true) ∧ Below w.heap.size w wr) (fun q _ => es.length - (intOf q).toNat)
    case atStart => exact ⟨0, Nat.zero_le _, rfl, fun k hk => by omega, Below.refl _ _⟩
    case round =>
      obtain ⟨i, hi, rfl, hall, Br⟩ := hrel
      by_cases hlt : i < es.length
      · obtain ⟨b, off, rfl, hbl, hc⟩ := HC.out (by omega)
        have c0 := (Br.cell (p := ⟨b, off + i * 2, none⟩) hbl).trans (hc i hlt).1
        have c1 := (Br.cell (p := ⟨b, off + i * 2 + 1, none⟩) hbl).trans (hc i hlt).2
        have hsz := (hb i hlt).2
        have HNO : Hid (entOk es i = false → R = false) := fun e => by rw [← HR.out]; exact clsOk_no hlt e
        have HCC : Hid (∀ k, k < es.length → wr.cell? ⟨b, off + k * 2, none⟩ = some (.int .i64 (es.getD k entD).1) ∧ wr.cell? ⟨b, off + k * 2 + 1, none⟩ = some (.string (es.getD k entD).2)) := fun k hk => ⟨(Br.cell (p := ⟨b, off + k * 2, none⟩) hbl).trans (hc k hk).1, (Br.cell (p := ⟨b, off + k * 2 + 1, none⟩) hbl).trans (hc k hk).2⟩
        have hbw : b < wr.heap.size := Nat.lt_of_lt_of_le hbl Br.size
        have EN := entOk_no (es := es) (i := i)
        have EY := entOk_yes (es := es) (i := i)
        have HALL : Hid _ := hall
        have HB : Hid _ := Br
        clear hc HC hall Br
        generalize hx : es.getD i entD = x at *
        obtain ⟨x, s⟩ := x
        have HEN : Hid _ := EN
        have HEY : Hid _ := EY
        clear EN EY
        have N0 := ebAt_new wr x s
        have n0 := N0.1
        have n1 := N0.2
        have sX : wr.heap.size < (wr.alloc (eb (x, s))).heap.size := by simp
        have HBX : Hid _ := HB.out.alloc HB.out.size (eb (x, s))
        have HCX : Hid (∀ k, k < es.length → (wr.alloc (eb (x, s))).cell? ⟨b, off + k * 2, none⟩ = some (.int .i64 (es.getD k entD).1) ∧ (wr.alloc (eb (x, s))).cell? ⟨b, off + k * 2 + 1, none⟩ = some (.string (es.getD k entD).2)) := fun k hk =>
          ⟨(((Below.refl wr.heap.size wr).alloc (Nat.le_refl _) _).cell (p := ⟨b, off + k * 2, none⟩) hbw).trans (HCC.out k hk).1, (((Below.refl wr.heap.size wr).alloc (Nat.le_refl _) _).cell (p := ⟨b, off + k * 2 + 1, none⟩) hbw).trans (HCC.out k hk).2⟩
        clear N0 HCC HB
        have L1 : ∀ (z lo hi : Int) (W : World), _ := fun z lo hi W => l1In_any z lo hi W
        go_wp2_with fail
        generalize (wr.alloc (Obj.cells #[.int .i64 x, .string s] 49)) = X at *
        generalize wr.heap.size = q at *
        clear c0 c1
        cases dA : inR 0 99 x
        · have ER : Hid _ := HNO.out (HEN.out (.inl dA))
          clear HEN HEY HNO HR HALL HCX
          go_quiet ((go_at_call 93; exact (L1 _ _ _ _).mono fun _ _ ⟨he, hm⟩ => ⟨he, _, hm⟩))
          go_wp2
          go_ret
          exact ⟨by rw [ER.out]; rfl, bel_drewN (n := nq) HBX.out⟩
        · cases dB : inR 1 20 (s.size : Int)
          · have ER : Hid _ := HNO.out (HEN.out (.inr (.inl dB)))
            clear HEN HEY HNO HR HALL HCX
            go_quiet ((go_at_call 93; exact (L1 _ _ _ _).mono fun _ _ ⟨he, hm⟩ => ⟨he, _, hm⟩))
            go_wp2
            go_ret
            exact ⟨by rw [ER.out]; rfl, bel_drewN (n := nq) HBX.out⟩
          · by_cases hi0 : i = 0
            · have GOOD : i = 0 ∨ (es.getD (i - 1) entD).1 < x := .inl hi0
              have g0 : ¬ 0 < i := by omega
              have g1 : decide (0 < i) = false := by simp; omega
              go_quiet ((go_at_call 93; exact (L1 _ _ _ _).mono fun _ _ ⟨he, hm⟩ => ⟨he, _, hm⟩))
              go_wp2_with fail
              go_loopw [5] (fun p wr2 => ∃ k n : Nat, k ≤ i ∧ p = .int .i64 k ∧ (∀ m, m < k → eqN (es.getD m entD).2 s = false) ∧ wr2 = X.drewN n) (fun p _ => i - (intOf p).toNat)
              case atStart => exact ⟨0, nq, Nat.zero_le _, rfl, fun m hm => by omega, rfl⟩
              case round =>
                obtain ⟨k, n, hk, rfl, hne, rfl⟩ := hrel
                have HNE : Hid _ := hne
                clear hne
                by_cases hki : k < i
                · exact absurd hki (by omega)
                · have HY : Hid (∀ m, m < i + 1 → entOk es m = true) := fun m hm => by
                    by_cases e' : m = i
                    · rw [e']
                      exact HEY.out dA dB GOOD (fun m' hm' => HNE.out m' (by omega))
                    · exact HALL.out m (by omega)
                  have HB2 : Hid _ := bel_drewN (n := n) HBX.out
                  clear HNE HCX HBX HEY HEN HNO HALL
                  go_wp2
                  exact ⟨⟨i + 1, by omega, by go_num, HY, HB2⟩, by simp [intOf]; omega⟩
            · have g0 : 0 < i := by omega
              have g1 : decide (0 < i) = true := by simp; omega
              have ei : ((i : Int) - 1).toNat = i - 1 := by omega
              have p0 := (HCX.out (i - 1) (by omega)).1
              by_cases hd : x ≤ (es.getD (i - 1) entD).1
              · have ER : Hid _ := HNO.out (HEN.out (.inr (.inr (.inl ⟨by omega, hd⟩))))
                have hd' : decide (x ≤ (es.getD (i - 1) entD).1) = true := by simpa using hd
                generalize (es.getD (i - 1) entD).1 = y at *
                clear HEN HEY HNO HR HALL HCX
                go_quiet ((go_at_call 93; exact (L1 _ _ _ _).mono fun _ _ ⟨he, hm⟩ => ⟨he, _, hm⟩))
                go_wp2
                go_ret
                exact ⟨by rw [ER.out]; rfl, bel_drewN (n := nq) HBX.out⟩
              · have GOOD : i = 0 ∨ (es.getD (i - 1) entD).1 < x := .inr (by omega)
                have hd' : decide (x ≤ (es.getD (i - 1) entD).1) = false := by simpa using hd
                have HGOOD : Hid _ := GOOD
                go_quiet ((go_at_call 93; exact (L1 _ _ _ _).mono fun _ _ ⟨he, hm⟩ => ⟨he, _, hm⟩))
                go_wp2_with fail
                go_loopw [5] (fun p wr2 => ∃ k n : Nat, k ≤ i ∧ p = .int .i64 k ∧ (∀ m, m < k → eqN (es.getD m entD).2 s = false) ∧ wr2 = X.drewN n) (fun p _ => i - (intOf p).toNat)
                case atStart => exact ⟨0, nq, Nat.zero_le _, rfl, fun m hm => by omega, rfl⟩
                case round =>
                  obtain ⟨k, n, hk, rfl, hne, rfl⟩ := hrel
                  have HNE : Hid _ := hne
                  clear hne
                  by_cases hki : k < i
                  · have d1 := (HCX.out k (by omega)).2
                    have HA : Hid (eqN (es.getD k entD).2 s = true → R = false) := fun e => HNO.out (HEN.out (.inr (.inr (.inr ⟨k, hki, e⟩))))
                    have HNE2 : Hid (eqN (es.getD k entD).2 s = false → ∀ m, m < k + 1 → eqN (es.getD m entD).2 s = false) := fun e m hm => by
                      by_cases e' : m = k
                      · rw [e']; exact e
                      · exact HNE.out m (by omega)
                    generalize (es.getD k entD).2 = t at *
                    clear HNE HCX
                    cases dE : eqN t s
                    · have dE' : (t.toList == s.toList) = false := dE
                      have HN3 : Hid _ := HNE2.out dE
                      clear HA HNE2
                      go_wp2
                      go_quiet (fail)
                      go_wp2
                      exact ⟨⟨k + 1, n + nq, by omega, by go_num, HN3, rfl⟩, by simp [intOf]; omega⟩
                    · have dE' : (t.toList == s.toList) = true := dE
                      have ER : Hid _ := HA.out dE
                      clear HA HNE2
                      go_wp2
                      go_quiet (fail)
                      go_wp2
                      go_ret
                      exact ⟨by rw [ER.out]; rfl, bel_drewN (n := nq) (bel_drewN (n := n) HBX.out)⟩
                  · have HY : Hid (∀ m, m < i + 1 → entOk es m = true) := fun m hm => by
                      by_cases e' : m = i
                      · rw [e']
                        exact HEY.out dA dB GOOD (fun m' hm' => HNE.out m' (by omega))
                      · exact HALL.out m (by omega)
                    have HB2 : Hid _ := bel_drewN (n := n) HBX.out
                    clear HNE HCX HBX HEY HEN HNO HALL
                    go_wp2
                    exact ⟨⟨i + 1, by omega, by go_num, HY, HB2⟩, by simp [intOf]; omega⟩
      · have ER : Hid (R = true) := by
          show R = true
          rw [← HR.out]
          exact clsOk_yes h40 (fun k hk => hall k (by omega))
        have HB : Hid _ := Br
        clear Br HC HR hall
        go_wp2
        go_ret
        exact ⟨by rw [ER.out]; rfl, HB⟩
  · have h40' : (es.length : Int) > 40 := by omega
    have e : clsOk es = false := by unfold clsOk; simp [h40]
    rw [e]
    clear HC e
    go_enter Try.func25, Try.ntmps25
    go_wp2
    go_ret
    exact ⟨rfl, Below.refl _ _⟩
end Go.Proofs.Ytdogibjgogcdkab.ents
