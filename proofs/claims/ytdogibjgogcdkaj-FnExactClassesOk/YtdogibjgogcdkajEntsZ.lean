/-
  How much a list of entries holds, as the laws reckon it.
  Made from the template EntsZ.
-/
import Derived.Test.YtdogibjgogcdkajEnts
namespace Go.Proofs.Ytdogibjgogcdkaj.ents
open Go.RowKit rows

/-- The bytes of all Names. -/
def namesLen : List Ent → Nat
  | [] => 0
  | e :: es => e.2.size + namesLen es
theorem namesLen_take_succ : ∀ {es : List Ent} {k : Nat}, k < es.length → namesLen (es.take (k + 1)) = namesLen (es.take k) + (es.getD k entD).2.size
  | [], _, h => by simp at h
  | e :: es, 0, _ => by simp [namesLen]
  | e :: es, k + 1, h => by
    have := namesLen_take_succ (es := es) (k := k) (by simpa using h)
    simp [namesLen] at this ⊢
    omega
theorem namesLen_take_le : ∀ (es : List Ent) (k : Nat), namesLen (es.take k) ≤ namesLen es
  | [], k => by simp [namesLen]
  | e :: es, 0 => by simp [namesLen]
  | e :: es, k + 1 => by
    have := namesLen_take_le es k
    simp [namesLen]
    omega
theorem size_le_names : ∀ {es : List Ent} {k : Nat}, k < es.length → (es.getD k entD).2.size ≤ namesLen es
  | [], _, h => by simp at h
  | e :: es, 0, _ => by simp [namesLen]
  | e :: es, k + 1, h => by
    have := size_le_names (es := es) (k := k) (by simpa using h)
    simp [namesLen] at this ⊢
    omega
/-- All Names are such as a machine bears. -/
def Borne (es : List Ent) : Prop := ∀ k, k < es.length → I64 (es.getD k entD).1 ∧ (es.getD k entD).2.size ≤ 9223372036854775807
/-- What is left when all is taken off; -1: it is too much. -/
def szE (es : List Ent) (left : Nat) : Int := if es.length + namesLen es ≤ left then (left : Int) - (es.length + namesLen es : Nat) else -1

theorem szEntry_any (e : Ent) (left : Nat) (hl : left ≤ 1048576) (hs : e.2.size ≤ 9223372036854775807) (w : World) :
    Calls Try.prog 31 #[ev e, .int .i64 left] w fun r w' => r = .returned (.int .i64 (if e.2.size ≤ left then (left : Int) - e.2.size else -1)) ∧ Below w.heap.size w w' := by
  obtain ⟨x, s⟩ := e
  have HB : Hid (Below w.heap.size w (w.alloc (.cells #[.int .i64 x, .string s] 56))) := (Below.refl _ _).alloc (Nat.le_refl _) _
  by_cases h : s.size ≤ left
  · have h' : ¬ (left : Int) - (s.size : Int) < 0 := by omega
    rw [if_pos h]
    go_enter Try.func31, Try.ntmps31
    go_wp2
    go_ret
    exact ⟨rfl, HB⟩
  · have h' : (left : Int) - (s.size : Int) < 0 := by omega
    rw [if_neg h]
    have hs : s.size ≤ 9223372036854775807 := hs
    go_enter Try.func31, Try.ntmps31
    go_wp2
    go_ret
    exact ⟨rfl, HB⟩

set_option maxHeartbeats 1000000 in
theorem szEntryS_any {w : World} {v : Value} {es : List Ent} (h : EntsAt w v es) (hb : Borne es) (left : Nat) (hleft : left ≤ 1048576) :
    Calls Try.prog 9 #[v, .int .i64 left] w fun e w' => e = .returned (.int .i64 (szE es left)) ∧ Below w.heap.size w w' := by
  obtain ⟨a, cap, rfl, hlc, hcm, _, hc⟩ := h
  have hcm' : cap ≤ 9223372036854775807 := hcm
  have HC : Hid _ := hc
  clear hc
  by_cases h1 : es.length ≤ left
  · obtain ⟨R, hR⟩ : ∃ R, szE es left = R := ⟨_, rfl⟩
    rw [hR]
    have HR : Hid _ := hR
    clear hR
    have h1' : ¬ (left : Int) - (es.length : Int) < 0 := by omega
    go_enter Try.func9, Try.ntmps9
    go_wp2_with fail
    go_loopw [1, 5] (fun q i wr => ∃ k l : Nat, k ≤ es.length ∧ i = .int .i64 k ∧ q = .int .i64 l ∧ l + es.length + namesLen (es.take k) = left ∧ Below w.heap.size w wr) (fun _ i _ => es.length - (intOf i).toNat)
    case atStart => exact ⟨0, left - es.length, Nat.zero_le _, rfl, by go_num, by simp [namesLen]; omega, Below.refl _ _⟩
    case round =>
      obtain ⟨k, l, hk, rfl, rfl, hl, Br⟩ := hrel
      by_cases hlt : k < es.length
      · obtain ⟨b, off, rfl, hbl, hc⟩ := HC.out (by omega)
        have c0 := (Br.cell (p := ⟨b, off + k * 2, none⟩) hbl).trans (hc k hlt).1
        have c1 := (Br.cell (p := ⟨b, off + k * 2 + 1, none⟩) hbl).trans (hc k hlt).2
        have ns := namesLen_take_succ hlt
        have nl := namesLen_take_le es (k + 1)
        have SZ := szEntry_any (es.getD k entD) l (by omega) (hb k hlt).2 wr
        have HB : Hid _ := Br
        clear hc HC Br
        generalize es.getD k entD = x at *
        obtain ⟨x, s⟩ := x
        have ns : namesLen (es.take (k + 1)) = namesLen (es.take k) + s.size := ns
        by_cases hs : s.size ≤ l
        · rw [if_pos hs] at SZ
          obtain ⟨d, hd⟩ : ∃ d : Nat, (l : Int) - (s.size : Int) = d := ⟨l - s.size, by omega⟩
          rw [hd] at SZ
          have hd0 : ¬ (d : Int) < 0 := by omega
          go_wp2_with (go_at_call 31; refine SZ.mono ?_; clear SZ; rintro e w2 ⟨rfl, b2⟩; have HB2 : Hid _ := HB.out.trans (b2.mono HB.out.size); clear b2)
          exact ⟨⟨k + 1, d, by omega, by go_num, rfl, by omega, HB2⟩, by simp [intOf]; omega⟩
        · rw [if_neg hs] at SZ
          have ER : Hid (R = -1) := by
            show R = -1
            rw [← HR.out]
            unfold szE
            rw [if_neg (by omega)]
          clear HR
          go_wp2_with (go_at_call 31; refine SZ.mono ?_; clear SZ; rintro e w2 ⟨rfl, b2⟩; have HB2 : Hid _ := HB.out.trans (b2.mono HB.out.size); clear b2)
          go_ret
          exact ⟨by rw [ER.out]; rfl, HB2⟩
      · have e : es.take k = es := List.take_of_length_le (by omega)
        rw [e] at hl
        have ER : Hid (R = (l : Int)) := by
          show R = (l : Int)
          rw [← HR.out]
          unfold szE
          rw [if_pos (by omega)]
          omega
        have HB : Hid _ := Br
        clear HR HC Br
        go_wp2
        go_ret
        exact ⟨by rw [ER.out]; rfl, HB⟩
  · have e : szE es left = -1 := by unfold szE; rw [if_neg (by omega)]
    rw [e]
    have h1' : (left : Int) - (es.length : Int) < 0 := by omega
    clear HC e
    go_enter Try.func9, Try.ntmps9
    go_wp2
    go_ret
    exact ⟨rfl, Below.refl _ _⟩
end Go.Proofs.Ytdogibjgogcdkaj.ents
