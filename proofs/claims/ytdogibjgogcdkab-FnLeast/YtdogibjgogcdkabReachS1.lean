/-
  Chapter 1 as the specification has it: is a number in a list, and a number into a list that rises.
  Made from the template ReachS1.
-/
import Derived.Test.YtdogibjgogcdkabReachD
import Derived.Test.YtdogibjgogcdkabCopied
import Derived.Maps.AppendAt
namespace Go.Proofs.Ytdogibjgogcdkab.gr
open Go.RowKit rows heads
set_option maxRecDepth 100000
set_option linter.unusedVariables false

set_option maxHeartbeats 4000000 in
theorem l1Has_any {w : World} {v : Value} {xs : List Int} (h : IntsAt w v xs) (hl : xs.length ≤ 1048576) (n : Int) :
    Calls Try.prog 155 #[v, .int .i64 n] w fun e w' => e = .returned (.bool (decide (n ∈ xs))) ∧ w' = w := by
  obtain ⟨a, cap, rfl, hlc, hcm, _, hc⟩ := h
  have HC : Hid _ := hc
  obtain ⟨RV, hRV⟩ : ∃ RV, decide (n ∈ xs) = RV := ⟨_, rfl⟩
  rw [hRV]
  have HRV : Hid _ := hRV
  clear hc hRV
  go_enter Try.func155, Try.ntmps155
  go_wp2_with fail
  go_loopw [5] (fun p wr => ∃ k : Nat, k ≤ xs.length ∧ p = .int .i64 k ∧ (∀ j, j < k → ¬ xs.getD j 0 = n) ∧ wr = w) (fun p _ => xs.length - (intOf p).toNat)
  case atStart => exact ⟨0, Nat.zero_le _, rfl, fun j hj => by omega, rfl⟩
  case round =>
    obtain ⟨k, hk, rfl, hne, hw⟩ := hrel
    subst hw
    by_cases hlt : k < xs.length
    · obtain ⟨b, off, rfl, hb, hcc⟩ := HC.out (by omega)
      have c0 := hcc k hlt
      have hget : xs.getD k 0 ∈ xs := by
        rw [List.getD_eq_getElem?_getD, List.getElem?_eq_getElem hlt]
        exact List.getElem_mem hlt
      by_cases hy : xs.getD k 0 = n
      · have HV : Hid (RV = true) := by show _ = _; rw [← HRV.out, decide_eq_true_eq, ← hy]; exact hget
        have hy' : (xs.getD k 0 == n) = true := by simpa using hy
        clear hcc HC hne hget hy
        generalize xs.getD k 0 = y at *
        go_wp2
        go_ret
        exact ⟨by rw [HV.out]; rfl, rfl⟩
      · have HV : Hid (∀ j, j < k + 1 → ¬ xs.getD j 0 = n) := fun j hj => by
          by_cases e : j = k
          · rw [e]; exact hy
          · exact hne j (by omega)
        have hy' : (xs.getD k 0 == n) = false := by simpa using hy
        clear hcc HC hne hget hy
        generalize xs.getD k 0 = y at *
        go_wp2
        exact ⟨⟨k + 1, by omega, by go_num, HV, by trivial⟩, by simp [intOf]; omega⟩
    · have HV : Hid (RV = false) := by
        show _ = _
        rw [← HRV.out, decide_eq_false_iff_not]
        intro hm
        obtain ⟨i, hi, e⟩ := List.getElem_of_mem hm
        refine hne i (by omega) ?_
        rw [List.getD_eq_getElem?_getD, List.getElem?_eq_getElem hi]
        exact e
      clear HC hne HRV
      go_wp2
      go_ret
      exact ⟨by rw [HV.out]; rfl, rfl⟩

theorem ints_take {w : World} {a : Option Addr} {n cap k : Nat} {xs : List Int} (h : IntsAt w (.slice a n cap) xs) (hk : k ≤ n) : IntsAt w (.slice a k cap) (xs.take k) := by
  obtain ⟨a0, cap0, e, h1, h2, h3, h4⟩ := h
  injection e with e1 e2 e3
  subst e1 e2 e3
  refine ⟨a, cap, by rw [List.length_take, Nat.min_eq_left hk], ?_, h2, h3, fun hp => ?_⟩
  · rw [List.length_take]; omega
  · rw [List.length_take] at hp
    obtain ⟨b, off, e, hb, hc⟩ := h4 (by omega)
    refine ⟨b, off, e, hb, fun i hi => ?_⟩
    rw [List.length_take] at hi
    rw [hc i (by omega), List.getD_eq_getElem?_getD, List.getD_eq_getElem?_getD, List.getElem?_take_of_lt (by omega)]
theorem ints_drop {w : World} {b off n cap k : Nat} {xs : List Int} (h : IntsAt w (.slice (some ⟨b, off, none⟩) n cap) xs) (hk : k ≤ n) {a : Option Addr} (ha : k < n → a = some ⟨b, off + k, none⟩) (hz : a = none → cap - k = 0) : IntsAt w (.slice a (n - k) (cap - k)) (xs.drop k) := by
  obtain ⟨a0, cap0, e, h1, h2, h3, h4⟩ := h
  injection e with e1 e2 e3
  subst e1 e2 e3
  refine ⟨a, cap - k, by rw [List.length_drop], ?_, Nat.le_trans (Nat.sub_le _ _) h2, hz, fun hp => ?_⟩
  · rw [List.length_drop]; omega
  · rw [List.length_drop] at hp
    obtain ⟨b', off', e, hb, hc⟩ := h4 (by omega)
    injection e with e
    injection e with e1 e2
    subst e1 e2
    refine ⟨b, off + k, ha (by omega), hb, fun i hi => ?_⟩
    rw [List.length_drop] at hi
    rw [Nat.add_assoc, hc (k + i) (by omega), List.getD_eq_getElem?_getD, List.getD_eq_getElem?_getD, List.getElem?_drop]
/-- 'append([]int64{}, list...)', how many there are under a name of its own. -/
theorem wpList_copiedN {w : World} {ops : Array Oper} {rest : List Oper} {o : Oper} {act : Act} {Q : Exit → Act → World → Prop} {a : Option Addr} {n cap : Nat} {xs : List Int}
    (h : IntsAt w (.slice a n cap) xs) (hl : n ≤ 1048576) (hgd : o.guard = none) (s x : Operand) (ho : o.op = .call { callee := .builtin .append, args := #[s, x], argTypes := #[24, 24] })
    (hs : act.eval s = .slice (some ⟨w.heap.size, 0, none⟩) 0 0) (hx : act.eval x = .slice a n cap)
    (hK : ∀ g cap' w1, w.heap.size ≤ g → w1.ownsRow w.heap.size 2 1 (.slice (some ⟨g, 0, none⟩) n cap') n (cellsOf xs) → Below w.heap.size w w1 → wpList Try.prog ops Q rest (act.put o.dst (.slice (some ⟨g, 0, none⟩) n cap')) w1) :
    wpList Try.prog ops Q (o :: rest) act (w.alloc (.cells #[] 2)) := by
  have e : xs.length = n := by
    obtain ⟨a', c', e, _⟩ := h
    injection e with _ e _
    exact e.symm
  subst e
  exact wpList_copied h hl hgd s x ho hs hx hK
end Go.Proofs.Ytdogibjgogcdkab.gr
