/-
  A number as a text: some few bytes.
  Made from the template DrawInt.
-/
import Derived.Test.YtdogibjgogcdkabMarkText
import Derived.Test.YtdogibjgogcdkabDrawKit
namespace Go.Proofs.Ytdogibjgogcdkab.draw
open Go.RowKit rows ents

theorem loop_some (s : ByteArray) : ∀ n i r, s.size - i = n → r ≠ [] → ByteArray.toList.loop s i r ≠ []
  | 0, i, r, hn, hr => by
    unfold ByteArray.toList.loop
    rw [if_neg (by omega)]
    simpa using hr
  | n + 1, i, r, hn, hr => by
    unfold ByteArray.toList.loop
    rw [if_pos (by omega)]
    exact loop_some s n (i + 1) _ (by omega) (by simp)
theorem toList_some {s : ByteArray} (h : 0 < s.size) : s.toList.isEmpty = false := by
  rw [List.isEmpty_eq_false_iff]
  unfold ByteArray.toList
  unfold ByteArray.toList.loop
  rw [if_pos h]
  exact loop_some s _ _ _ rfl (by simp)
def strSz : Value → Nat
  | .string s => s.size
  | _ => 0
set_option maxRecDepth 100000 in
set_option maxHeartbeats 1000000 in
theorem l1Int_any (k0 : Nat) (h1 : k0 ≤ 99) (w : World) :
    Calls Try.prog 134 #[.int .i64 k0] w fun e w' => ∃ s : ByteArray, s.size ≤ 2 ∧ e = .returned (.string s) ∧ Below w.heap.size w w' := by
  go_enter Try.func134, Try.ntmps134
  have hneg : ¬ (k0 : Int) < 0 := by omega
  go_wp2_with fail
  go_loopw [0, 3] (fun p q wr => ∃ (k : Nat) (s : ByteArray), p = .int .i64 k ∧ q = .string s ∧ ((s = ⟨#[]⟩ ∧ k ≤ 99) ∨ (s.size = 1 ∧ k ≤ 9) ∨ (s.size = 2 ∧ k = 0)) ∧ Below w.heap.size w wr) (fun _ q _ => 3 - strSz q)
  case atStart => exact ⟨k0, _, rfl, rfl, .inl ⟨rfl, h1⟩, Below.refl _ _⟩
  case round =>
    obtain ⟨k, s, rfl, rfl, hs, hB⟩ := hrel
    have HB : Hid _ := hB
    clear hB
    have CV := conv_one wr (48 + (k : Int) % 10)
    have hd1 := dgt_size k
    have hd2 : dgt k = strOfNums [48 + (k : Int) % 10] := rfl
    rw [← hd2] at CV
    have HB2 : Hid _ := HB.out.alloc HB.out.size (.cells #[.int .u8 (48 + (k : Int) % 10)] 5)
    have hs0 : s.size ≤ 2 := by rcases hs with ⟨rfl, _⟩ | h | h <;> first | decide | omega
    have hs2 : ¬ (dgt k).size + s.size > 9223372036854775807 := by omega
    have hsz : (dgt k ++ s).size = 1 + s.size := by rw [ByteArray.size_append, hd1]
    clear hd2
    generalize dgt k = d at *
    rcases hs with ⟨rfl, h⟩ | ⟨h, h'⟩ | ⟨h, h'⟩
    · have hz : (⟨#[]⟩ : ByteArray).size = 0 := rfl
      go_wp2
      exact ⟨⟨k / 10, d ++ ⟨#[]⟩, by go_num, rfl, .inr (.inl ⟨by omega, by omega⟩), HB2⟩, by simp only [strSz]; omega⟩
    · have hne := toList_some (s := s) (by omega)
      by_cases hk0 : k = 0
      · subst hk0
        clear CV
        go_wp2
        go_ret
        exact ⟨s, by omega, rfl, HB⟩
      · go_wp2
        exact ⟨⟨k / 10, d ++ s, by go_num, rfl, .inr (.inr ⟨by omega, by omega⟩), HB2⟩, by simp only [strSz]; omega⟩
    · have hne := toList_some (s := s) (by omega)
      subst h'
      clear CV
      go_wp2
      go_ret
      exact ⟨s, by omega, rfl, HB⟩
end Go.Proofs.Ytdogibjgogcdkab.draw
