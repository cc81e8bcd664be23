/-
  Chapter 6 as the program has it: what a ref says, and where an Id stands.
  Made from the template GraphIShape.
-/
import Derived.Test.YthhpgbhgijlcpaaDoorHeadOk
import Derived.Test.YthhpgbhgijlcpaaDoorM1
namespace Go.Proofs.YthhpgbhgijlcpaaDoor.gr
open Go.RowKit rows heads
set_option maxRecDepth 100000

theorem intInRange_any (n : Int) (w : World) :
    Calls Tryd.prog 63 #[.int .i64 n] w fun e w' => e = .returned (.bool (inR (-100000) 100000 n)) ∧ w' = w := by
  unfold inR
  by_cases h1 : (-100000 : Int) ≤ n
  · by_cases h2 : n ≤ 100000
    · go_enter Tryd.func63, Tryd.ntmps63
      go_wp2
      go_ret
      exact ⟨by simp; omega, rfl⟩
    · go_enter Tryd.func63, Tryd.ntmps63
      go_wp2
      go_ret
      exact ⟨by simp; omega, rfl⟩
  · go_enter Tryd.func63, Tryd.ntmps63
    go_wp2
    go_ret
    exact ⟨by simp; omega, rfl⟩

/-- What a ref says, as a value. -/
def shv (r : Rf) : Value := if r.1 = 0 ∧ r.2 = 0 then .iface 116 (.agg #[]) else if (r.1 == 1 && inR (-100000) 100000 r.2) = true then .iface 106 (.agg #[.int .i64 r.2]) else if r.1 = 2 then .iface 108 (.agg #[.int .i64 r.2]) else .nilIface
set_option maxHeartbeats 1000000 in
theorem shapeOf_any (r : Rf) (w : World) :
    Calls Tryd.prog 55 #[rv r] w fun e w' => e = .returned (shv r) ∧ Below w.heap.size w w' := by
  obtain ⟨k, n⟩ := r
  have B : Below w.heap.size w (w.alloc (rb (k, n))) := (Below.refl _ w).alloc (Nat.le_refl _) _
  have HB : Hid _ := B
  clear B
  have I := intInRange_any n
  by_cases k0 : k = 0
  · subst k0
    by_cases n0 : n = 0
    · subst n0
      clear I
      go_enter Tryd.func55, Tryd.ntmps55
      go_wp2
      go_ret
      exact ⟨by simp [shv], HB⟩
    · have n0' : (n == 0) = false := by simpa using n0
      clear I
      go_enter Tryd.func55, Tryd.ntmps55
      go_wp2
      go_ret
      exact ⟨by simp [shv, n0], HB⟩
  · have k0' : (k == 0) = false := by simpa using k0
    by_cases k1 : k = 1
    · subst k1
      have es : shv (1, n) = if inR (-100000) 100000 n = true then .iface 106 (.agg #[.int .i64 n]) else .nilIface := by simp [shv]
      rw [es]
      cases d : inR (-100000) 100000 n
      · rw [d] at I
        go_enter Tryd.func55, Tryd.ntmps55
        go_wp2_with (go_at_call 63; refine (I _).mono ?_; rintro e w1 ⟨rfl, rfl⟩)
        go_ret
        exact ⟨by simp, HB⟩
      · rw [d] at I
        go_enter Tryd.func55, Tryd.ntmps55
        go_wp2_with (go_at_call 63; refine (I _).mono ?_; rintro e w1 ⟨rfl, rfl⟩)
        go_ret
        exact ⟨by simp, HB⟩
    · have k1' : (k == 1) = false := by simpa using k1
      clear I
      by_cases k2 : k = 2
      · subst k2
        go_enter Tryd.func55, Tryd.ntmps55
        go_wp2
        go_ret
        exact ⟨by simp [shv], HB⟩
      · have k2' : (k == 2) = false := by simpa using k2
        go_enter Tryd.func55, Tryd.ntmps55
        go_wp2
        go_ret
        exact ⟨by simp [shv, k0, k1, k2], HB⟩

/-- The four shapes. -/
theorem shv_cases (r : Rf) : (r = (0, 0) ∧ shv r = .iface 116 (.agg #[])) ∨ (r.1 = 1 ∧ inR (-100000) 100000 r.2 = true ∧ shv r = .iface 106 (.agg #[.int .i64 r.2])) ∨ (r.1 = 2 ∧ shv r = .iface 108 (.agg #[.int .i64 r.2])) ∨ (¬ r.1 = 2 ∧ ¬ (r.1 = 0 ∧ r.2 = 0) ∧ ¬ (r.1 = 1 ∧ inR (-100000) 100000 r.2 = true) ∧ shv r = .nilIface) := by
  obtain ⟨k, n⟩ := r
  unfold shv
  by_cases h0 : k = 0 ∧ n = 0
  · exact .inl ⟨by rw [h0.1, h0.2], by simp [h0]⟩
  · by_cases h1 : k = 1 ∧ inR (-100000) 100000 n = true
    · exact .inr (.inl ⟨h1.1, h1.2, by simp [h1.1, h1.2]⟩)
    · by_cases h2 : k = 2
      · exact .inr (.inr (.inl ⟨h2, by simp [h2]⟩))
      · refine .inr (.inr (.inr ⟨h2, h0, h1, ?_⟩))
        have h1' : (k == 1 && inR (-100000) 100000 n) = false := by
          cases e : (k == 1 && inR (-100000) 100000 n)
          · rfl
          · simp only [Bool.and_eq_true, beq_iff_eq] at e; exact absurd e h1
        simp only [h0, h1', h2, if_false]
        simp

theorem as_nothing_nothing (v : Value) (w : World) : (Instr.typeAssert (.iface 116 v) 103 116 true).run Tryd.prog w = .ok (.tuple #[v, .bool true]) w := by kernel_rfl
theorem as_number_nothing (v : Value) (w : World) : (Instr.typeAssert (.iface 106 v) 103 116 true).run Tryd.prog w = .ok (.tuple #[.agg #[], .bool false]) w := by kernel_rfl
theorem as_leading_nothing (v : Value) (w : World) : (Instr.typeAssert (.iface 108 v) 103 116 true).run Tryd.prog w = .ok (.tuple #[.agg #[], .bool false]) w := by kernel_rfl
theorem as_nil_nothing (w : World) : (Instr.typeAssert .nilIface 103 116 true).run Tryd.prog w = .ok (.tuple #[.agg #[], .bool false]) w := by kernel_rfl
theorem as_nothing_number (v : Value) (w : World) : (Instr.typeAssert (.iface 116 v) 103 106 true).run Tryd.prog w = .ok (.tuple #[.agg #[.int .i64 0], .bool false]) w := by kernel_rfl
theorem as_number_number (v : Value) (w : World) : (Instr.typeAssert (.iface 106 v) 103 106 true).run Tryd.prog w = .ok (.tuple #[v, .bool true]) w := by kernel_rfl
theorem as_leading_number (v : Value) (w : World) : (Instr.typeAssert (.iface 108 v) 103 106 true).run Tryd.prog w = .ok (.tuple #[.agg #[.int .i64 0], .bool false]) w := by kernel_rfl
theorem as_nil_number (w : World) : (Instr.typeAssert .nilIface 103 106 true).run Tryd.prog w = .ok (.tuple #[.agg #[.int .i64 0], .bool false]) w := by kernel_rfl
theorem as_nothing_leading (v : Value) (w : World) : (Instr.typeAssert (.iface 116 v) 103 108 true).run Tryd.prog w = .ok (.tuple #[.agg #[.int .i64 0], .bool false]) w := by kernel_rfl
theorem as_number_leading (v : Value) (w : World) : (Instr.typeAssert (.iface 106 v) 103 108 true).run Tryd.prog w = .ok (.tuple #[.agg #[.int .i64 0], .bool false]) w := by kernel_rfl
theorem as_leading_leading (v : Value) (w : World) : (Instr.typeAssert (.iface 108 v) 103 108 true).run Tryd.prog w = .ok (.tuple #[v, .bool true]) w := by kernel_rfl
theorem as_nil_leading (w : World) : (Instr.typeAssert .nilIface 103 108 true).run Tryd.prog w = .ok (.tuple #[.agg #[.int .i64 0], .bool false]) w := by kernel_rfl
set_option maxHeartbeats 1000000 in
theorem leadsTo_any (r : Rf) (w : World) :
    Calls Tryd.prog 52 #[rv r] w fun e w' => e = .returned (.tuple #[.int .i64 (if r.1 = 2 then r.2 else 0), .bool (r.1 == 2)]) ∧ Below w.heap.size w w' := by
  have S := shapeOf_any r (w.alloc (rb r))
  have C := shv_cases r
  obtain ⟨k, n⟩ := r
  have B : Below w.heap.size w (w.alloc (rb (k, n))) := (Below.refl _ w).alloc (Nat.le_refl _) _
  have hsz : w.heap.size ≤ (w.alloc (rb (k, n))).heap.size := B.size
  have HB : Hid _ := B
  clear B
  generalize hs : shv (k, n) = sv at *
  clear hs
  go_enter Tryd.func52, Tryd.ntmps52
  go_wp2_with fail
  refine S.mono ?_
  rintro e w1 ⟨rfl, b1⟩
  have B1 := HB.out.trans (b1.mono hsz)
  have sz1 := B1.size
  have HB1 : Hid _ := B1
  clear S HB b1 B1
  rcases C with ⟨c, rfl⟩ | ⟨c, _, rfl⟩ | ⟨c, rfl⟩ | ⟨c, _, _, rfl⟩
  · injection c with c1 c2
    subst c1 c2
    have a1 := as_nothing_leading
    go_wp2
    refine bodyPost_ret (v := .tuple #[.int .i64 0, .bool false]) (by simp [results, Tryd.results52, go_sem]) rfl ⟨rfl, ?_⟩
    exact HB1.out.alloc sz1 _
  · subst c
    have a1 := as_number_leading
    go_wp2
    refine bodyPost_ret (v := .tuple #[.int .i64 0, .bool false]) (by simp [results, Tryd.results52, go_sem]) rfl ⟨rfl, ?_⟩
    exact HB1.out.alloc sz1 _
  · subst c
    have a1 := as_leading_leading
    go_wp2
    refine bodyPost_ret (v := .tuple #[.int .i64 n, .bool true]) (by simp [results, Tryd.results52, go_sem]) rfl ⟨rfl, ?_⟩
    exact HB1.out.alloc sz1 _
  · have c' : (k == 2) = false := by simpa using c
    have a1 := as_nil_leading
    go_wp2
    refine bodyPost_ret (v := .tuple #[.int .i64 0, .bool false]) (by simp [results, Tryd.results52, go_sem]) rfl ⟨by simp, ?_⟩
    exact HB1.out.alloc sz1 _
end Go.Proofs.YthhpgbhgijlcpaaDoor.gr
