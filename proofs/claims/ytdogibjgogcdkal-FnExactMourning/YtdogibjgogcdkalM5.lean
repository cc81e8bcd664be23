/-
  Chapter 6 as the program has it: what a ref says, and where an Id stands. Chapter 6 as the program has it: the place of an Id among Ids that rise (slices.BinarySearchFunc). Chapter 6 as the program has it: is a ref right, are lists of refs? Chapter 6 as the program has it: the place to which a ref leads. Graphs of the call's own that are changed: a root, a slot, an object more; a graph held in a block. Chapter 6 as the program has it: is a graph right?
-/
import Derived.Test.YtdogibjgogcdkalM1
import Derived.Test.YtdogibjgogcdkalM3
import Derived.Test.YtdogibjgogcdkalM4
import Derived.Maps.AppendAt
namespace Go.Proofs.Ytdogibjgogcdkal.gr
open Go.RowKit rows heads
set_option maxRecDepth 100000

theorem intInRange_any (n : Int) (w : World) :
    Calls Try.prog 134 #[.int .i64 n] w fun e w' => e = .returned (.bool (inR (-100000) 100000 n)) ∧ w' = w := by
  unfold inR
  by_cases h1 : (-100000 : Int) ≤ n
  · by_cases h2 : n ≤ 100000
    · go_enter Try.func134, Try.ntmps134
      go_wp2
      go_ret
      exact ⟨by simp; omega, rfl⟩
    · go_enter Try.func134, Try.ntmps134
      go_wp2
      go_ret
      exact ⟨by simp; omega, rfl⟩
  · go_enter Try.func134, Try.ntmps134
    go_wp2
    go_ret
    exact ⟨by simp; omega, rfl⟩

/-- What a ref says, as a value. -/
def shv (r : Rf) : Value := if r.1 = 0 ∧ r.2 = 0 then .iface 154 (.agg #[]) else if (r.1 == 1 && inR (-100000) 100000 r.2) = true then .iface 156 (.agg #[.int .i64 r.2]) else if r.1 = 2 then .iface 132 (.agg #[.int .i64 r.2]) else .nilIface
set_option maxHeartbeats 1000000 in
theorem shapeOf_any (r : Rf) (w : World) :
    Calls Try.prog 114 #[rv r] w fun e w' => e = .returned (shv r) ∧ Below w.heap.size w w' := by
  obtain ⟨k, n⟩ := r
  have B : Below w.heap.size w (w.alloc (rb (k, n))) := (Below.refl _ w).alloc (Nat.le_refl _) _
  have HB : Hid _ := B
  clear B
  have I := intInRange_any n
  by_cases k0 : k = 0
  · subst k0
    by_cases n0 : n = 0
    · subst n0
      clear I
      go_enter Try.func114, Try.ntmps114
      go_wp2
      go_ret
      exact ⟨by simp [shv], HB⟩
    · have n0' : (n == 0) = false := by simpa using n0
      clear I
      go_enter Try.func114, Try.ntmps114
      go_wp2
      go_ret
      exact ⟨by simp [shv, n0], HB⟩
  · have k0' : (k == 0) = false := by simpa using k0
    by_cases k1 : k = 1
    · subst k1
      have es : shv (1, n) = if inR (-100000) 100000 n = true then .iface 156 (.agg #[.int .i64 n]) else .nilIface := by simp [shv]
      rw [es]
      cases d : inR (-100000) 100000 n
      · rw [d] at I
        go_enter Try.func114, Try.ntmps114
        go_wp2_with (go_at_call 134; refine (I _).mono ?_; rintro e w1 ⟨rfl, rfl⟩)
        go_ret
        exact ⟨by simp, HB⟩
      · rw [d] at I
        go_enter Try.func114, Try.ntmps114
        go_wp2_with (go_at_call 134; refine (I _).mono ?_; rintro e w1 ⟨rfl, rfl⟩)
        go_ret
        exact ⟨by simp, HB⟩
    · have k1' : (k == 1) = false := by simpa using k1
      clear I
      by_cases k2 : k = 2
      · subst k2
        go_enter Try.func114, Try.ntmps114
        go_wp2
        go_ret
        exact ⟨by simp [shv], HB⟩
      · have k2' : (k == 2) = false := by simpa using k2
        go_enter Try.func114, Try.ntmps114
        go_wp2
        go_ret
        exact ⟨by simp [shv, k0, k1, k2], HB⟩

/-- The four shapes. -/
theorem shv_cases (r : Rf) : (r = (0, 0) ∧ shv r = .iface 154 (.agg #[])) ∨ (r.1 = 1 ∧ inR (-100000) 100000 r.2 = true ∧ shv r = .iface 156 (.agg #[.int .i64 r.2])) ∨ (r.1 = 2 ∧ shv r = .iface 132 (.agg #[.int .i64 r.2])) ∨ (¬ r.1 = 2 ∧ ¬ (r.1 = 0 ∧ r.2 = 0) ∧ ¬ (r.1 = 1 ∧ inR (-100000) 100000 r.2 = true) ∧ shv r = .nilIface) := by
  obtain ⟨k, n⟩ := r
  unfold shv
  by_cases h0 : k = 0 ∧ n = 0
  · exact .inl ⟨by rw [h0.1, h0.2], by simp [h0]⟩
  · by_cases h1 : k = 1 ∧ inR (-100000) 100000 n = true
    · exact .inr (.inl ⟨h1.1, h1.2, by simp [h1.1, h1.2]⟩)
    · by_cases h2 : k = 2
      · exact .inr (.inr (.inl ⟨h2, by simp [h2]⟩))
      · refine .inr (.inr (.inr ⟨h2, h0, h1, ?_⟩))
        have h1' : (k == 1 && inR (-100000) 100000 n) = false := by
          cases e : (k == 1 && inR (-100000) 100000 n)
          · rfl
          · simp only [Bool.and_eq_true, beq_iff_eq] at e; exact absurd e h1
        simp only [h0, h1', h2, if_false]
        simp

theorem as_nothing_nothing (v : Value) (w : World) : (Instr.typeAssert (.iface 154 v) 135 154 true).run Try.prog w = .ok (.tuple #[v, .bool true]) w := by kernel_rfl
theorem as_number_nothing (v : Value) (w : World) : (Instr.typeAssert (.iface 156 v) 135 154 true).run Try.prog w = .ok (.tuple #[.agg #[], .bool false]) w := by kernel_rfl
theorem as_leading_nothing (v : Value) (w : World) : (Instr.typeAssert (.iface 132 v) 135 154 true).run Try.prog w = .ok (.tuple #[.agg #[], .bool false]) w := by kernel_rfl
theorem as_nil_nothing (w : World) : (Instr.typeAssert .nilIface 135 154 true).run Try.prog w = .ok (.tuple #[.agg #[], .bool false]) w := by kernel_rfl
theorem as_nothing_number (v : Value) (w : World) : (Instr.typeAssert (.iface 154 v) 135 156 true).run Try.prog w = .ok (.tuple #[.agg #[.int .i64 0], .bool false]) w := by kernel_rfl
theorem as_number_number (v : Value) (w : World) : (Instr.typeAssert (.iface 156 v) 135 156 true).run Try.prog w = .ok (.tuple #[v, .bool true]) w := by kernel_rfl
theorem as_leading_number (v : Value) (w : World) : (Instr.typeAssert (.iface 132 v) 135 156 true).run Try.prog w = .ok (.tuple #[.agg #[.int .i64 0], .bool false]) w := by kernel_rfl
theorem as_nil_number (w : World) : (Instr.typeAssert .nilIface 135 156 true).run Try.prog w = .ok (.tuple #[.agg #[.int .i64 0], .bool false]) w := by kernel_rfl
theorem as_nothing_leading (v : Value) (w : World) : (Instr.typeAssert (.iface 154 v) 135 132 true).run Try.prog w = .ok (.tuple #[.agg #[.int .i64 0], .bool false]) w := by kernel_rfl
theorem as_number_leading (v : Value) (w : World) : (Instr.typeAssert (.iface 156 v) 135 132 true).run Try.prog w = .ok (.tuple #[.agg #[.int .i64 0], .bool false]) w := by kernel_rfl
theorem as_leading_leading (v : Value) (w : World) : (Instr.typeAssert (.iface 132 v) 135 132 true).run Try.prog w = .ok (.tuple #[v, .bool true]) w := by kernel_rfl
theorem as_nil_leading (w : World) : (Instr.typeAssert .nilIface 135 132 true).run Try.prog w = .ok (.tuple #[.agg #[.int .i64 0], .bool false]) w := by kernel_rfl
set_option maxHeartbeats 1000000 in
theorem leadsTo_any (r : Rf) (w : World) :
    Calls Try.prog 96 #[rv r] w fun e w' => e = .returned (.tuple #[.int .i64 (if r.1 = 2 then r.2 else 0), .bool (r.1 == 2)]) ∧ Below w.heap.size w w' := by
  have S := shapeOf_any r (w.alloc (rb r))
  have C := shv_cases r
  obtain ⟨k, n⟩ := r
  have B : Below w.heap.size w (w.alloc (rb (k, n))) := (Below.refl _ w).alloc (Nat.le_refl _) _
  have hsz : w.heap.size ≤ (w.alloc (rb (k, n))).heap.size := B.size
  have HB : Hid _ := B
  clear B
  generalize hs : shv (k, n) = sv at *
  clear hs
  go_enter Try.func96, Try.ntmps96
  go_wp2_with fail
  refine S.mono ?_
  rintro e w1 ⟨rfl, b1⟩
  have B1 := HB.out.trans (b1.mono hsz)
  have sz1 := B1.size
  have HB1 : Hid _ := B1
  clear S HB b1 B1
  rcases C with ⟨c, rfl⟩ | ⟨c, _, rfl⟩ | ⟨c, rfl⟩ | ⟨c, _, _, rfl⟩
  · injection c with c1 c2
    subst c1 c2
    have a1 := as_nothing_leading
    go_wp2
    refine bodyPost_ret (v := .tuple #[.int .i64 0, .bool false]) (by simp [results, Try.results96, go_sem]) rfl ⟨rfl, ?_⟩
    exact HB1.out.alloc sz1 _
  · subst c
    have a1 := as_number_leading
    go_wp2
    refine bodyPost_ret (v := .tuple #[.int .i64 0, .bool false]) (by simp [results, Try.results96, go_sem]) rfl ⟨rfl, ?_⟩
    exact HB1.out.alloc sz1 _
  · subst c
    have a1 := as_leading_leading
    go_wp2
    refine bodyPost_ret (v := .tuple #[.int .i64 n, .bool true]) (by simp [results, Try.results96, go_sem]) rfl ⟨rfl, ?_⟩
    exact HB1.out.alloc sz1 _
  · have c' : (k == 2) = false := by simpa using c
    have a1 := as_nil_leading
    go_wp2
    refine bodyPost_ret (v := .tuple #[.int .i64 0, .bool false]) (by simp [results, Try.results96, go_sem]) rfl ⟨by simp, ?_⟩
    exact HB1.out.alloc sz1 _
end Go.Proofs.Ytdogibjgogcdkal.gr
namespace Go.Proofs.Ytdogibjgogcdkal.gr
open Go.RowKit rows heads
set_option maxRecDepth 100000

def cmpI (x y : Int) : Int := if x < y then -1 else if y < x then 1 else 0
theorem isNaN_any (x : Int) (w : World) : Calls Try.prog 100 #[.int .i64 x] w fun e w' => e = .returned (.bool false) ∧ w' = w := by
  have hx : (x != x) = false := by simp
  go_enter Try.func100, Try.ntmps100
  go_wp2
  go_ret
  exact ⟨by simp, rfl⟩
theorem compare_any (x y : Int) (w : World) : Calls Try.prog 78 #[.int .i64 x, .int .i64 y] w fun e w' => e = .returned (.int .i64 (cmpI x y)) ∧ w' = w := by
  generalize hc : cmpI x y = cc
  by_cases h1 : x < y
  · have EC : Hid (cc = -1) := by show _ = _; rw [← hc]; unfold cmpI; rw [if_pos h1]
    clear hc
    go_enter Try.func78, Try.ntmps78
    go_wp2_with (go_at_call 100; refine (isNaN_any _ _).mono ?_; rintro e w1 ⟨rfl, rfl⟩)
    go_ret
    exact ⟨by rw [EC.out]; rfl, rfl⟩
  · by_cases h2 : y < x
    · have EC : Hid (cc = 1) := by show _ = _; rw [← hc]; unfold cmpI; rw [if_neg h1, if_pos h2]
      clear hc
      go_enter Try.func78, Try.ntmps78
      go_wp2_with (go_at_call 100; refine (isNaN_any _ _).mono ?_; rintro e w1 ⟨rfl, rfl⟩)
      go_ret
      exact ⟨by rw [EC.out]; rfl, rfl⟩
    · have EC : Hid (cc = 0) := by show _ = _; rw [← hc]; unfold cmpI; rw [if_neg h1, if_neg h2]
      clear hc
      go_enter Try.func78, Try.ntmps78
      go_wp2_with (go_at_call 100; refine (isNaN_any _ _).mono ?_; rintro e w1 ⟨rfl, rfl⟩)
      go_ret
      exact ⟨by rw [EC.out]; rfl, rfl⟩
theorem atId_any (m : MO) (hs : ∃ a n c, m.sv = .slice a n c) (id : Int) (w : World) : Calls Try.prog 116 #[ov m, .int .i64 id] w fun e w' => e = .returned (.int .i64 (cmpI m.id id)) ∧ Below w.heap.size w w' := by
  obtain ⟨i, c, f, g, sv, sl⟩ := m
  obtain ⟨a, n, cp, hs⟩ := hs
  simp only at hs
  subst hs
  have B : Below w.heap.size w (w.alloc (ob ⟨i, c, f, g, .slice a n cp, sl⟩)) := (Below.refl _ w).alloc (Nat.le_refl _) _
  have HB : Hid _ := B
  clear B
  have C := fun w => compare_any i id w
  generalize hc : cmpI i id = cc at *
  clear hc
  go_enter Try.func116, Try.ntmps116
  go_wp2_with (go_at_call 78; refine (C _).mono ?_; rintro e w1 ⟨rfl, rfl⟩)
  go_ret
  exact ⟨rfl, HB⟩

/-- Where a search among these objects ends. -/
def EndsM (ms : List MO) (id : Int) (i : Nat) : Prop := i ≤ ms.length ∧ (∀ t, t < i → (ms.getD t moD).id < id) ∧ ∀ t, i ≤ t → t < ms.length → id ≤ (ms.getD t moD).id
def RiseM (ms : List MO) : Prop := ∀ i j, i < j → j < ms.length → (ms.getD i moD).id < (ms.getD j moD).id
set_option maxHeartbeats 4000000 in
theorem binSearch_any {w : World} {v : Value} {ms : List MO} (h : OrowAt w v ms) (hsl : Slices ms) (hr : RiseM ms) (hl : ms.length ≤ 1048576) (id : Int) :
    Calls Try.prog 115 #[v, .int .i64 id, .func (.func 116) #[] #[]] w fun e w' => ∃ i : Nat, EndsM ms id i ∧ e = .returned (.tuple #[.int .i64 i, .bool (decide (i < ms.length) && decide ((ms.getD i moD).id = id))]) ∧ Below w.heap.size w w' := by
  obtain ⟨a, cap, rfl, hlc, hcm, _, hc⟩ := h
  have hcm' : cap ≤ 9223372036854775807 := hcm
  have HC : Hid _ := hc
  have HR : Hid _ := hr
  have HS : Hid _ := hsl
  clear hc hr hsl
  go_enter Try.func115, Try.ntmps115
  go_wp2_with fail
  go_loopw [9, 10] (fun p q wr => ∃ lo hi : Nat, p = .int .i64 lo ∧ q = .int .i64 hi ∧ lo ≤ hi ∧ hi ≤ ms.length ∧ (∀ t, t < lo → (ms.getD t moD).id < id) ∧ (∀ t, hi ≤ t → t < ms.length → id ≤ (ms.getD t moD).id) ∧ Below w.heap.size w wr) (fun p q _ => (intOf q).toNat - (intOf p).toNat)
  case atStart => exact ⟨0, ms.length, rfl, rfl, Nat.zero_le _, Nat.le_refl _, fun t ht => by omega, fun t h1 h2 => by omega, Below.refl _ _⟩
  case round =>
    obtain ⟨lo, hi, rfl, rfl, hlh, hhn, hlo, hhi, hB⟩ := hrel
    have HLO : Hid _ := hlo
    have HHI : Hid _ := hhi
    have HB : Hid _ := hB
    clear hlo hhi hB
    by_cases hlt : lo < hi
    · have hm1 : lo ≤ (lo + hi) / 2 ∧ (lo + hi) / 2 < hi := by omega
      have ediv : ((lo : Int) + (hi : Int)).fdiv (2 ^ min (Int.toNat 1) IntKind.u64.bits) = ((lo : Int) + (hi : Int)) / 2 := by
        rw [show (2 : Int) ^ min (Int.toNat 1) IntKind.u64.bits = 2 by decide, Int.fdiv_eq_ediv_of_nonneg _ (by decide)]
      obtain ⟨b, off, rfl, hb, hcc⟩ := HC.out (by omega)
      obtain ⟨x0, x1, x2, x3, x4⟩ := hcc ((lo + hi) / 2) (by omega)
      have c0 := (HB.out.cell (p := ⟨b, off + ((lo + hi) / 2) * 5, none⟩) hb).trans x0
      have c1 := (HB.out.cell (p := ⟨b, off + ((lo + hi) / 2) * 5 + 1, none⟩) hb).trans x1
      have c2 := (HB.out.cell (p := ⟨b, off + ((lo + hi) / 2) * 5 + 2, none⟩) hb).trans x2
      have c3 := (HB.out.cell (p := ⟨b, off + ((lo + hi) / 2) * 5 + 3, none⟩) hb).trans x3
      have c4 := (HB.out.cell (p := ⟨b, off + ((lo + hi) / 2) * 5 + 4, none⟩) hb).trans x4
      have A := atId_any (ms.getD ((lo + hi) / 2) moD) (HS.out _ (mem_getD (by omega))) id wr
      obtain ⟨sa, sn, sc, hsv⟩ := HS.out _ (mem_getD (show ((lo + hi) / 2) < ms.length by omega))
      have HUP : Hid ((ms.getD ((lo + hi) / 2) moD).id < id → ∀ t, t < ((lo + hi) / 2) + 1 → (ms.getD t moD).id < id) := fun e t ht => by
        by_cases e' : t = ((lo + hi) / 2)
        · rw [e']; exact e
        · have := HR.out t ((lo + hi) / 2) (by omega) (by omega)
          omega
      have HDN : Hid (¬ (ms.getD ((lo + hi) / 2) moD).id < id → ∀ t, ((lo + hi) / 2) ≤ t → t < ms.length → id ≤ (ms.getD t moD).id) := fun e t h1 h2 => by
        by_cases e' : t = ((lo + hi) / 2)
        · rw [e']; omega
        · have := HR.out ((lo + hi) / 2) t (by omega) h2
          omega
      clear hcc HC HS HR x0 x1 x2 x3 x4
      generalize ms.getD ((lo + hi) / 2) moD = x at *
      obtain ⟨xi, xc, xf, xh, xv, xs⟩ := x
      simp only at hsv HUP HDN
      subst hsv
      simp only [ov] at A
      have hcut : cmpI xi id < 0 ↔ xi < id := by unfold cmpI; split <;> (try split) <;> omega
      have HB0 : Hid _ := HB.out
      have szr := HB.out.size
      by_cases hx : xi < id
      · have hneg := hcut.2 hx
        have HUP2 : Hid _ := HUP.out hx
        generalize cmpI xi id = cc at *
        clear HUP HDN HLO hx hcut
        go_wp2_with (go_at_call 116; refine A.mono ?_; rintro e w1 ⟨rfl, b1⟩; have HB1 : Hid _ := HB0.out.trans (b1.mono szr); clear b1 A HB0 HB)
        exact ⟨⟨((lo + hi) / 2) + 1, hi, by go_num, rfl, by omega, hhn, HUP2, HHI, HB1⟩, by simp [intOf]; omega⟩
      · have hneg : ¬ cmpI xi id < 0 := fun e => hx (hcut.1 e)
        have HDN2 : Hid _ := HDN.out hx
        generalize cmpI xi id = cc at *
        clear HUP HDN HHI hx hcut
        go_wp2_with (go_at_call 116; refine A.mono ?_; rintro e w1 ⟨rfl, b1⟩; have HB1 : Hid _ := HB0.out.trans (b1.mono szr); clear b1 A HB0 HB)
        exact ⟨⟨lo, ((lo + hi) / 2), rfl, by go_num, by omega, by omega, HLO, HDN2, HB1⟩, by simp [intOf]; omega⟩
    · have e : hi = lo := by omega
      subst e
      have HE : Hid (EndsM ms id hi) := ⟨hhn, HLO.out, HHI.out⟩
      clear HLO HHI HR
      by_cases hn : hi < ms.length
      · obtain ⟨b, off, rfl, hb, hcc⟩ := HC.out (by omega)
        obtain ⟨x0, x1, x2, x3, x4⟩ := hcc hi (by omega)
        have c0 := (HB.out.cell (p := ⟨b, off + hi * 5, none⟩) hb).trans x0
        have c1 := (HB.out.cell (p := ⟨b, off + hi * 5 + 1, none⟩) hb).trans x1
        have c2 := (HB.out.cell (p := ⟨b, off + hi * 5 + 2, none⟩) hb).trans x2
        have c3 := (HB.out.cell (p := ⟨b, off + hi * 5 + 3, none⟩) hb).trans x3
        have c4 := (HB.out.cell (p := ⟨b, off + hi * 5 + 4, none⟩) hb).trans x4
        have A := atId_any (ms.getD hi moD) (HS.out _ (mem_getD (by omega))) id wr
        obtain ⟨sa, sn, sc, hsv⟩ := HS.out _ (mem_getD (show hi < ms.length by omega))
        have szr := HB.out.size
        obtain ⟨bb, hbb⟩ : ∃ bb, (decide (hi < ms.length) && decide ((ms.getD hi moD).id = id)) = bb := ⟨_, rfl⟩
        have HBB : Hid _ := hbb
        have HV : Hid (bb = (cmpI (ms.getD hi moD).id id == 0)) := by
          show _ = _
          rw [← hbb, Bool.eq_iff_iff]
          simp only [Bool.and_eq_true, decide_eq_true_eq, beq_iff_eq]
          unfold cmpI
          split <;> (try split) <;> omega
        clear hcc HC HS x0 x1 x2 x3 x4 hbb
        generalize hxx : ms.getD hi moD = x at *
        obtain ⟨xi, xc, xf, xh, xv, xs⟩ := x
        simp only at hsv
        subst hsv
        simp only [ov] at A
        simp only at HV
        have HXX : Hid _ := hxx
        clear hxx
        generalize cmpI xi id = cc at *
        cases hcc : (cc == 0)
        · rw [hcc] at HV
          go_wp2_with (go_at_call 116; refine A.mono ?_; rintro e w1 ⟨rfl, b1⟩; have HB1 : Hid _ := HB.out.trans (b1.mono szr); clear b1 A)
          refine bodyPost_ret (v := .tuple #[.int .i64 hi, .bool false]) (by simp [results, Try.results115, go_sem]) rfl ⟨hi, HE, by rw [HXX.out, HBB.out, HV.out], HB1⟩
        · rw [hcc] at HV
          go_wp2_with (go_at_call 116; refine A.mono ?_; rintro e w1 ⟨rfl, b1⟩; have HB1 : Hid _ := HB.out.trans (b1.mono szr); clear b1 A)
          refine bodyPost_ret (v := .tuple #[.int .i64 hi, .bool true]) (by simp [results, Try.results115, go_sem]) rfl ⟨hi, HE, by rw [HXX.out, HBB.out, HV.out], HB1⟩
      · have HV : Hid ((decide (hi < ms.length) && decide ((ms.getD hi moD).id = id)) = false) := by
          show _ = _
          simp [hn]
        clear HC HS
        go_wp2
        refine bodyPost_ret (v := .tuple #[.int .i64 hi, .bool false]) (by simp [results, Try.results115, go_sem]) rfl ⟨hi, HE, by rw [HV.out], HB⟩

theorem placeOf_any {w : World} {v : Value} {ms : List MO} (h : OrowAt w v ms) (hsl : Slices ms) (hr : RiseM ms) (hl : ms.length ≤ 1048576) (id : Int) :
    Calls Try.prog 97 #[v, .int .i64 id] w fun e w' => ∃ i : Nat, EndsM ms id i ∧ e = .returned (.tuple #[.int .i64 i, .bool (decide (i < ms.length) && decide ((ms.getD i moD).id = id))]) ∧ Below w.heap.size w w' := by
  have S := binSearch_any h hsl hr hl id
  obtain ⟨a, cap, rfl, hlc, hcm, _, hc⟩ := h
  clear hc
  go_enter Try.func97, Try.ntmps97
  go_wp2_with fail
  refine S.mono ?_
  rintro e w1 ⟨i, hE, rfl, b1⟩
  have HE : Hid _ := hE
  have HB : Hid _ := b1
  clear S hE b1
  generalize hbb : (decide (i < ms.length) && decide ((ms.getD i moD).id = id)) = bb at *
  have HBB : Hid _ := hbb
  clear hbb
  go_wp2
  exact bodyPost_ret (v := .tuple #[.int .i64 i, .bool bb]) (by simp [results, Try.results97, go_sem]) rfl ⟨i, HE, by rw [HBB.out], HB⟩
end Go.Proofs.Ytdogibjgogcdkal.gr
namespace Go.Proofs.Ytdogibjgogcdkal.gr
open Go.RowKit rows heads
set_option maxRecDepth 100000

theorem endsM {ms : List MO} {os : List Ob} (e : ms.map MO.abs = os) {id : Int} {i : Nat} (h : EndsM ms id i) : Ends os id i := by
  subst e
  have g : ∀ t, ((ms.map MO.abs).getD t obD).id = (ms.getD t moD).id := fun t => by rw [abs_getD]; rfl
  refine ⟨by simpa using h.1, fun t ht => by rw [g]; exact h.2.1 t ht, fun t h1 h2 => by rw [g]; exact h.2.2 t h1 (by simpa using h2)⟩
theorem riseM {ms : List MO} {os : List Ob} (e : ms.map MO.abs = os) (h : Rise os) : RiseM ms := by
  subst e
  have g : ∀ t, ((ms.map MO.abs).getD t obD).id = (ms.getD t moD).id := fun t => by rw [abs_getD]; rfl
  intro i j hij hj
  have := h i j hij (by simpa using hj)
  rw [g, g] at this
  exact this


set_option maxHeartbeats 2000000 in
theorem refOk_any {w : World} {v : Value} {ms : List MO} {os : List Ob} (h : OrowAt w v ms) (hsl : Slices ms) (ea : ms.map MO.abs = os) (hr : Rise os) (hl : ms.length ≤ 1048576) (r : Rf) :
    Calls Try.prog 113 #[rv r, v] w fun e w' => e = .returned (.bool (refOk os r)) ∧ Below w.heap.size w w' := by
  have S := shapeOf_any r (w.alloc (rb r))
  have C := shv_cases r
  have HP : Hid (∀ W, Below w.heap.size w W → ∀ id, _) := fun W hW id => placeOf_any (orowAt_below h hW) hsl (riseM ea hr) hl id
  have hlen : ms.length = os.length := by rw [← ea]; simp
  have HI : Hid (∀ id i, EndsM ms id i → (decide (i < ms.length) && decide ((ms.getD i moD).id = id)) = decide (0 ≤ atI os id)) := fun id i hE => by
    have := ends_is hr (endsM ea hE)
    rw [← this, ← hlen, ← ea, abs_getD]
    rfl
  obtain ⟨a, cap, rfl, hlc, hcm, _, hc⟩ := h
  clear hc
  obtain ⟨k, n⟩ := r
  have B : Below w.heap.size w (w.alloc (rb (k, n))) := (Below.refl _ w).alloc (Nat.le_refl _) _
  have hsz : w.heap.size ≤ (w.alloc (rb (k, n))).heap.size := B.size
  have HB : Hid _ := B
  clear B hlen
  generalize hs : shv (k, n) = sv at *
  obtain ⟨RV, hRV⟩ : ∃ RV, refOk os (k, n) = RV := ⟨_, rfl⟩
  rw [hRV]
  have HRV : Hid _ := hRV
  clear hs hRV
  go_enter Try.func113, Try.ntmps113
  go_wp2_with fail
  refine S.mono ?_
  rintro e w1 ⟨rfl, b1⟩
  have B1 := HB.out.trans (b1.mono hsz)
  have sz1 := B1.size
  have HB1 : Hid _ := B1
  clear S HB b1 B1
  rcases C with ⟨c, rfl⟩ | ⟨c, cc, rfl⟩ | ⟨c, rfl⟩ | ⟨c, c0, c1, rfl⟩
  · injection c with d1 d2
    subst d1 d2
    have ER : Hid (RV = true) := by show _ = _; rw [← HRV.out]; simp [refOk]
    have a1 := as_nothing_nothing
    have a2 := as_nothing_number
    have a3 := as_nothing_leading
    clear HRV HP HI
    go_wp2
    go_ret
    exact ⟨by rw [ER.out]; rfl, HB1⟩
  · subst c
    have ER : Hid (RV = true) := by show _ = _; rw [← HRV.out]; simpa [refOk] using cc
    have a1 := as_number_nothing
    have a2 := as_number_number
    have a3 := as_number_leading
    clear HRV HP HI cc
    go_wp2
    go_ret
    exact ⟨by rw [ER.out]; rfl, HB1⟩
  · subst c
    have ER : Hid (RV = decide (0 ≤ atI os n)) := by show _ = _; rw [← HRV.out]; simp [refOk]
    have a1 := as_leading_nothing
    have a2 := as_leading_number
    have a3 := as_leading_leading
    have P := HP.out (w1.alloc (.cells #[.int .i64 n] 132)) (HB1.out.alloc sz1 _) n
    have B2 : Below w.heap.size w (w1.alloc (.cells #[.int .i64 n] 132)) := HB1.out.alloc sz1 _
    have HB2 : Hid _ := B2
    have sz2 := B2.size
    clear HRV HP B2
    go_wp2_with (go_at_call 97; refine P.mono ?_; rintro e w2 ⟨i, hE, rfl, b2⟩; have HV : Hid _ := HI.out n i hE; have HB3 : Hid _ := HB2.out.trans (b2.mono sz2); clear b2 hE P)
    go_ret
    exact ⟨by rw [ER.out, ← HV.out]; rfl, HB3⟩
  · have ER : Hid (RV = false) := by
      show _ = _
      rw [← HRV.out]
      unfold refOk
      by_cases k0 : k = 0
      · subst k0
        have : ¬ n = 0 := fun e => c0 ⟨rfl, e⟩
        simp [this]
      · by_cases k1 : k = 1
        · subst k1
          cases d : inR (-100000) 100000 n
          · simp
          · exact absurd ⟨rfl, d⟩ c1
        · simp [k0, k1, c]
    have a1 := as_nil_nothing
    have a2 := as_nil_number
    have a3 := as_nil_leading
    clear HRV HP HI c0 c1
    go_wp2
    go_ret
    exact ⟨by rw [ER.out]; rfl, HB1⟩

set_option maxHeartbeats 2000000 in
theorem refsOk_any {w : World} {v u : Value} {ms : List MO} {os : List Ob} {es : List Rf} (hR : RefsAt w u es) (h : OrowAt w v ms) (hsl : Slices ms) (ea : ms.map MO.abs = os) (hr : Rise os) (hl : ms.length ≤ 1048576) (hle : es.length ≤ 1048576) :
    Calls Try.prog 94 #[u, v] w fun e w' => e = .returned (.bool (refsB os es)) ∧ Below w.heap.size w w' := by
  have HO : Hid (∀ W, Below w.heap.size w W → ∀ r, _) := fun W hW r => refOk_any (orowAt_below h hW) hsl ea hr hl r
  obtain ⟨a1, c1, rfl, _, _, _, _⟩ := h
  obtain ⟨a, cap, rfl, hlc, hcm, _, hc⟩ := hR
  have HC : Hid _ := hc
  clear hc
  obtain ⟨RV, hRV⟩ : ∃ RV, refsB os es = RV := ⟨_, rfl⟩
  rw [hRV]
  have HRV : Hid _ := hRV
  clear hRV
  go_enter Try.func94, Try.ntmps94
  go_wp2_with fail
  go_loopw [9] (fun p wr => ∃ k : Nat, k ≤ es.length ∧ p = .int .i64 k ∧ (∀ q, q < k → refOk os (es.getD q refD) = true) ∧ Below w.heap.size w wr) (fun p _ => es.length - (intOf p).toNat)
  case atStart => exact ⟨0, Nat.zero_le _, rfl, fun q hq => by omega, Below.refl _ _⟩
  case round =>
    obtain ⟨k, hk, rfl, hall, hB⟩ := hrel
    have HA : Hid _ := hall
    have HB : Hid _ := hB
    have szr := hB.size
    clear hall
    by_cases hlt : k < es.length
    · obtain ⟨b, off, rfl, hb, hcc⟩ := HC.out (by omega)
      have c0 := (hB.cell (p := ⟨b, off + k * 2, none⟩) hb).trans (hcc k hlt).1
      have c1 := (hB.cell (p := ⟨b, off + k * 2 + 1, none⟩) hb).trans (hcc k hlt).2
      have HX : Hid (refOk os (es.getD k refD) = false → RV = false) := fun e => by rw [← HRV.out]; exact rangeAll_not hlt e
      have HY : Hid (refOk os (es.getD k refD) = true → ∀ q, q < k + 1 → refOk os (es.getD q refD) = true) := fun e q hq => by
        by_cases e' : q = k
        · rw [e']; exact e
        · exact HA.out q (by omega)
      have B2 : Below w.heap.size w (wr.alloc (rb (es.getD k refD))) := hB.alloc szr _
      have W := HO.out _ B2 (es.getD k refD)
      clear hcc HC hB
      generalize es.getD k refD = x at *
      have HB2 : Hid _ := B2
      have sz2 := B2.size
      clear B2
      obtain ⟨x, s⟩ := x
      cases d : refOk os (x, s)
      · have ER : Hid _ := HX.out d
        rw [d] at W
        clear HX HY HA HRV HO HB d
        go_wp2_with (go_at_call 113; refine W.mono ?_; rintro e w1 ⟨rfl, b1⟩; have HB1 : Hid _ := HB2.out.trans (b1.mono sz2); clear b1 W)
        go_ret
        exact ⟨by rw [ER.out]; rfl, HB1⟩
      · have HY2 : Hid _ := HY.out d
        rw [d] at W
        clear HX HY HA HRV HO HB d
        go_wp2_with (go_at_call 113; refine W.mono ?_; rintro e w1 ⟨rfl, b1⟩; have HB1 : Hid _ := HB2.out.trans (b1.mono sz2); clear b1 W)
        exact ⟨⟨k + 1, by omega, by go_num, HY2, HB1⟩, by simp [intOf]; omega⟩
    · have e : k = es.length := by omega
      subst e
      have ER : Hid (RV = true) := by show _ = _; rw [← HRV.out]; exact rangeAll_yes HA.out
      clear HA HC hB HRV HO
      go_wp2
      go_ret
      exact ⟨by rw [ER.out]; rfl, HB⟩

set_option maxHeartbeats 2000000 in
theorem leadsAll_any {w : World} {u : Value} {es : List Rf} (hR : RefsAt w u es) (hle : es.length ≤ 1048576) :
    Calls Try.prog 95 #[u] w fun e w' => e = .returned (.bool (leadB es)) ∧ Below w.heap.size w w' := by
  obtain ⟨a, cap, rfl, hlc, hcm, _, hc⟩ := hR
  have HC : Hid _ := hc
  clear hc
  obtain ⟨RV, hRV⟩ : ∃ RV, leadB es = RV := ⟨_, rfl⟩
  rw [hRV]
  have HRV : Hid _ := hRV
  clear hRV
  go_enter Try.func95, Try.ntmps95
  go_wp2_with fail
  go_loopw [9] (fun p wr => ∃ k : Nat, k ≤ es.length ∧ p = .int .i64 k ∧ (∀ q, q < k → ((es.getD q refD).1 == 2) = true) ∧ Below w.heap.size w wr) (fun p _ => es.length - (intOf p).toNat)
  case atStart => exact ⟨0, Nat.zero_le _, rfl, fun q hq => by omega, Below.refl _ _⟩
  case round =>
    obtain ⟨k, hk, rfl, hall, hB⟩ := hrel
    have HA : Hid _ := hall
    have HB : Hid _ := hB
    have szr := hB.size
    clear hall
    by_cases hlt : k < es.length
    · obtain ⟨b, off, rfl, hb, hcc⟩ := HC.out (by omega)
      have c0 := (hB.cell (p := ⟨b, off + k * 2, none⟩) hb).trans (hcc k hlt).1
      have c1 := (hB.cell (p := ⟨b, off + k * 2 + 1, none⟩) hb).trans (hcc k hlt).2
      have HX : Hid (((es.getD k refD).1 == 2) = false → RV = false) := fun e => by rw [← HRV.out]; exact rangeAll_not hlt e
      have HY : Hid (((es.getD k refD).1 == 2) = true → ∀ q, q < k + 1 → ((es.getD q refD).1 == 2) = true) := fun e q hq => by
        by_cases e' : q = k
        · rw [e']; exact e
        · exact HA.out q (by omega)
      have B2 : Below w.heap.size w (wr.alloc (rb (es.getD k refD))) := hB.alloc szr _
      have W := leadsTo_any (es.getD k refD) (wr.alloc (rb (es.getD k refD)))
      clear hcc HC hB
      generalize es.getD k refD = x at *
      have HB2 : Hid _ := B2
      have sz2 := B2.size
      clear B2
      obtain ⟨x, s⟩ := x
      simp only at W HX HY
      generalize (if x = 2 then s else 0) = y at W
      cases d : (x == 2)
      · have ER : Hid _ := HX.out d
        rw [d] at W
        clear HX HY HA HRV HB d
        go_wp2_with (go_at_call 96; refine W.mono ?_; rintro e w1 ⟨rfl, b1⟩; have HB1 : Hid _ := HB2.out.trans (b1.mono sz2); clear b1 W)
        go_ret
        exact ⟨by rw [ER.out]; rfl, HB1⟩
      · have HY2 : Hid _ := HY.out d
        rw [d] at W
        clear HX HY HA HRV HB d
        go_wp2_with (go_at_call 96; refine W.mono ?_; rintro e w1 ⟨rfl, b1⟩; have HB1 : Hid _ := HB2.out.trans (b1.mono sz2); clear b1 W)
        exact ⟨⟨k + 1, by omega, by go_num, HY2, HB1⟩, by simp [intOf]; omega⟩
    · have e : k = es.length := by omega
      subst e
      have ER : Hid (RV = true) := by show _ = _; rw [← HRV.out]; exact rangeAll_yes HA.out
      clear HA HC hB HRV
      go_wp2
      go_ret
      exact ⟨by rw [ER.out]; rfl, HB⟩
end Go.Proofs.Ytdogibjgogcdkal.gr
namespace Go.Proofs.Ytdogibjgogcdkal.gr
open Go.RowKit rows heads
set_option maxRecDepth 100000
set_option linter.unusedVariables false

/-- Does a ref lead to an object that is there? -/
def ledB (os : List Ob) (r : Rf) : Bool := r.1 == 2 && decide (0 ≤ atI os r.2)
/-- The place to which it leads. -/
def ledP (os : List Ob) (r : Rf) : Nat := (atI os r.2).toNat
theorem ledP_lt {os : List Ob} {r : Rf} (h : ledB os r = true) : ledP os r < os.length := by
  simp only [ledB, Bool.and_eq_true, decide_eq_true_eq] at h
  unfold ledP
  rcases atI_le os r.2 with e | e <;> omega
set_option maxHeartbeats 2000000 in
theorem ledTo_any {w : World} {v : Value} {ms : List MO} {os : List Ob} (h : OrowAt w v ms) (hsl : Slices ms) (ea : ms.map MO.abs = os) (hr : Rise os) (hl : ms.length ≤ 1048576) (r : Rf) :
    Calls Try.prog 70 #[v, rv r] w fun e w' => ∃ k : Nat, e = .returned (.tuple #[.int .i64 k, .bool (ledB os r)]) ∧ (ledB os r = true → k = ledP os r) ∧ Below w.heap.size w w' := by
  have HP : Hid (∀ W, Below w.heap.size w W → ∀ id, _) := fun W hW id => placeOf_any (orowAt_below h hW) hsl (riseM ea hr) hl id
  have hlen : ms.length = os.length := by rw [← ea]; simp
  have HI : Hid (∀ id i, EndsM ms id i → (decide (i < ms.length) && decide ((ms.getD i moD).id = id)) = decide (0 ≤ atI os id) ∧ (0 ≤ atI os id → i = (atI os id).toNat)) := fun id i hE => by
    have := ends_is hr (endsM ea hE)
    refine ⟨by rw [← this, ← hlen, ← ea, abs_getD]; rfl, fun hp => ?_⟩
    have := (ends_place hr (endsM ea hE) hp).1
    omega
  obtain ⟨a, cap, rfl, hlc, hcm, _, hc⟩ := h
  clear hc hlen
  obtain ⟨k, n⟩ := r
  have B : Below w.heap.size w (w.alloc (rb (k, n))) := (Below.refl _ w).alloc (Nat.le_refl _) _
  have L := leadsTo_any (k, n) (w.alloc (rb (k, n)))
  have HB : Hid _ := B
  have szB := B.size
  clear B
  simp only at L
  by_cases h2 : k = 2
  · subst h2
    simp only [if_true] at L
    have e22 : ((2 : Int) == 2) = true := rfl
    rw [e22] at L
    obtain ⟨bb, hbb⟩ : ∃ bb, ledB os (2, n) = bb := ⟨_, rfl⟩
    obtain ⟨pp, hpp⟩ : ∃ pp, ledP os (2, n) = pp := ⟨_, rfl⟩
    have HL : Hid (decide (0 ≤ atI os n) = bb) := by show _ = _; rw [← hbb]; simp [ledB]
    have HLP : Hid ((atI os n).toNat = pp) := hpp
    rw [hbb, hpp]
    clear e22 hbb hpp
    go_enter Try.func70, Try.ntmps70
    go_wp2_with fail
    refine L.mono ?_
    rintro e w1 ⟨rfl, b1⟩
    have B1 := HB.out.trans (b1.mono szB)
    have PO := HP.out w1 B1 n
    have sz1 := B1.size
    have HB1 : Hid _ := B1
    clear L HP b1 HB B1
    go_wp2_with fail
    refine PO.mono ?_
    rintro e w2 ⟨i, hE, rfl, b2⟩
    obtain ⟨hI, hJ⟩ := HI.out n i hE
    have HQ : Hid (bb = true → i = pp) := fun e => by rw [← HLP.out]; exact hJ (by rw [← HL.out] at e; simpa using e)
    have hI' := hI.trans HL.out
    rw [hI']
    have HB2 : Hid _ := HB1.out.trans (b2.mono sz1)
    clear PO HI hI hI' hJ hE b2 HL HLP
    go_wp2
    exact bodyPost_ret (v := .tuple #[.int .i64 i, .bool bb]) (by simp [results, Try.results70, go_sem]) rfl ⟨i, rfl, HQ.out, HB2⟩
  · have e2 : (k == 2) = false := by simpa using h2
    have HL : Hid (ledB os (k, n) = false) := by show _ = _; simp [ledB, e2]
    rw [if_neg h2, e2] at L
    clear HP HI e2
    go_enter Try.func70, Try.ntmps70
    go_wp2_with (go_at_call 96; refine L.mono ?_; rintro e w1 ⟨rfl, b1⟩; have HB1 : Hid _ := HB.out.trans (b1.mono szB); clear b1 L HB)
    refine bodyPost_ret (v := .tuple #[.int .i64 0, .bool false]) (by simp [results, Try.results70, go_sem]) rfl ⟨0, by rw [HL.out]; rfl, fun e => ?_, HB1⟩
    rw [HL.out] at e
    cases e
end Go.Proofs.Ytdogibjgogcdkal.gr
namespace Go.Proofs.Ytdogibjgogcdkal.gr
open Go.RowKit rows heads
set_option maxRecDepth 100000

theorem row_set {w : World} {base size n : Nat} {t : TypeId} {v : Value} {xs : List Value} (h : w.ownsRow base t size v n xs) {g n' c : Nat} (hv : v = .slice (some ⟨g, 0, none⟩) n' c) (i : Nat) (u : Value) : (w.setCell ⟨g, i, none⟩ u).ownsRow base t size v n (xs.set i u) := by
  obtain ⟨h0, ⟨h1, _⟩ | ⟨g', cap, cur, h1, hg, hh, hle, hm, hs, ht⟩⟩ := h
  · rw [hv] at h1; cases h1
  · rw [hv] at h1
    injection h1 with e1 e2 e3
    injection e1 with e1
    injection e1 with e1
    subst e1 e2 e3
    refine ⟨by simpa using h0, .inr ⟨g, c, _, hv, hg, cells_setCell hh i u, hle, hm, by simpa using hs, ?_⟩⟩
    rw [← ht]
    simp [List.take_set]
theorem ownR_form {w : World} {base : Nat} {r : Value} {es : List Rf} (h : OwnR w base r es) (hp : 0 < es.length) : ∃ q c, r = .slice (some ⟨q, 0, none⟩) es.length c := by
  obtain ⟨_, ⟨_, hn⟩ | ⟨g, cap, cur, rfl, _⟩⟩ := h
  · omega
  · exact ⟨g, cap, rfl⟩
theorem ownR_len {w : World} {base : Nat} {es : List Rf} {q n c : Nat} (h : OwnR w base (.slice (some ⟨q, 0, none⟩) n c) es) : n = es.length := by
  obtain ⟨_, ⟨h1, _⟩ | ⟨g', cap, cur, h1, _⟩⟩ := h
  · cases h1
  · injection h1 with _ e2 _
theorem ownR_cell {w : World} {base : Nat} {es : List Rf} {q n c : Nat} (h : OwnR w base (.slice (some ⟨q, 0, none⟩) n c) es) {i : Nat} (hi : i < es.length) : w.cell? ⟨q, i * 2, none⟩ = some (.int .i64 (es.getD i refD).1) ∧ w.cell? ⟨q, i * 2 + 1, none⟩ = some (.int .i64 (es.getD i refD).2) := by
  have e := ownR_len h
  subst e
  have c := cellsR_at es i hi
  have a0 := World.ownsRow.cellAt h (i * 2) (by omega)
  have a1 := World.ownsRow.cellAt h (i * 2 + 1) (by omega)
  rw [a0, a1]
  exact c
theorem row_frozen {w : World} {base size n : Nat} {t : TypeId} {xs : List Value} {q n' c : Nat} (h : w.ownsRow base t size (.slice (some ⟨q, 0, none⟩) n' c) n xs) (i : Nat) : w.frozen? ⟨q, i, none⟩ = false := by
  obtain ⟨_, ⟨h1, _⟩ | ⟨g', cap, cur, h1, hg, hh, hle, hm, hs, ht⟩⟩ := h
  · cases h1
  · injection h1 with e1 e2 e3
    injection e1 with e1
    injection e1 with e1
    subst e1
    simp [World.frozen?, hh]
abbrev put2 (X : World) (b k : Nat) (e : Rf) : World := (X.setCell ⟨b, k * 2, none⟩ (.int .i64 e.1)).setCell ⟨b, k * 2 + 1, none⟩ (.int .i64 e.2)
theorem put2_ch (X : World) (b k : Nat) (e : Rf) : Ch [b] X (put2 X b k e) := (one_ch X b _ _).trans (one_ch _ b _ _)
theorem ownR_set {w : World} {base : Nat} {es : List Rf} {q n c : Nat} (h : OwnR w base (.slice (some ⟨q, 0, none⟩) n c) es) (i : Nat) (e : Rf) : OwnR (put2 w q i e) base (.slice (some ⟨q, 0, none⟩) n c) (es.set i e) := by
  have h2 := row_set (row_set h rfl (i * 2) (.int .i64 e.1)) rfl (i * 2 + 1) (.int .i64 e.2)
  rw [cellsR_set] at h2
  unfold OwnR
  rw [List.length_set]
  exact h2
theorem blk_some (q n c : Nat) : blk (.slice (some ⟨q, 0, none⟩) n c) = [q] := rfl
theorem blk_nodup (v : Value) : (blk v).Nodup := by
  unfold blk
  cases v.ownBlock <;> simp
theorem blks_snoc (ms : List MO) (m : MO) : blks (ms ++ [m]) = blks ms ++ blk m.sv := by simp [blks]

theorem ownG_setRoot {w : World} {base : Nat} {o m : Value} {q n c : Nat} {ms : List MO} {G : Gr} (h : OwnG w base o (.slice (some ⟨q, 0, none⟩) n c) m ms G) (i : Nat) (e : Rf) :
    OwnG (put2 w q i e) base o (.slice (some ⟨q, 0, none⟩) n c) m ms { G with roots := G.roots.set i e } := by
  obtain ⟨h1, h2, h3, h4, h5⟩ := h
  have hd : ∀ k, k = q → k ∉ blk o ∧ k ∉ blks ms ∧ k ∉ blk m := by
    intro k hk
    subst hk
    simp only [gblk, blk_some, List.nodup_append, List.mem_append, List.mem_singleton] at h5
    refine ⟨fun e => ?_, fun e => ?_, fun e => ?_⟩
    · exact h5.1.2.2 k (.inl e) k rfl rfl
    · exact h5.1.2.2 k (.inr e) k rfl rfl
    · exact h5.2.2 k (.inr rfl) k e rfl
  refine ⟨h1, ownO_ch h2 (put2_ch w q i e) (fun k hk hq => ?_), ownR_set h3 i e, row_ch h4 (put2_ch w q i e) (fun k hk hq => ?_), h5⟩
  · rw [List.mem_singleton] at hq
    rcases List.mem_append.1 hk with hk | hk
    · exact (hd k hq).1 hk
    · exact (hd k hq).2.1 hk
  · rw [List.mem_singleton] at hq
    exact (hd k hq).2.2 hk

theorem cellsO_same : ∀ (ms : List MO) (k : Nat) (s : List Rf), cellsO (ms.set k { ms.getD k moD with slots := s }) = cellsO ms
  | [], _, _ => by simp [cellsO]
  | m :: ms, 0, s => by simp [cellsO]
  | m :: ms, k + 1, s => by
    have := cellsO_same ms k s
    simpa [cellsO] using this
theorem blks_same : ∀ (ms : List MO) (k : Nat) (s : List Rf), blks (ms.set k { ms.getD k moD with slots := s }) = blks ms
  | [], _, _ => by simp [blks]
  | m :: ms, 0, s => by simp [blks]
  | m :: ms, k + 1, s => by
    have := blks_same ms k s
    simpa [blks] using this
/-- A slot of the object k. -/
def setSlot (os : List Ob) (k j : Nat) (e : Rf) : List Ob := os.set k { os.getD k obD with slots := (os.getD k obD).slots.set j e }
theorem ownG_setSlot {w : World} {base : Nat} {o r m : Value} {ms : List MO} {G : Gr} (h : OwnG w base o r m ms G) {k : Nat} (hk : k < ms.length) {q n c : Nat} (hv : (ms.getD k moD).sv = .slice (some ⟨q, 0, none⟩) n c) (j : Nat) (e : Rf) :
    OwnG (put2 w q j e) base o r m (ms.set k { ms.getD k moD with slots := (ms.getD k moD).slots.set j e }) { G with objs := setSlot G.objs k j e } := by
  obtain ⟨h1, ⟨h2, h2b, h2c⟩, h3, h4, h5⟩ := h
  obtain ⟨ap1, ap2⟩ := apart h2c
  have hq : q ∈ blks ms := by
    simp only [blks, List.mem_flatMap]
    exact ⟨_, mem_getD hk, by rw [hv]; simp [blk_some]⟩
  have hd : ∀ x, x = q → x ∉ blk o ∧ x ∉ blk r ∧ x ∉ blk m := by
    intro x hx
    subst hx
    simp only [gblk, List.nodup_append, List.mem_append] at h5
    refine ⟨fun e => ?_, fun e => ?_, fun e => ?_⟩
    · exact h5.1.1.2.2 x e x hq rfl
    · exact h5.1.2.2 x (.inr hq) x e rfl
    · exact h5.2.2 x (.inl (.inr hq)) x e rfl
  have CH := put2_ch w q j e
  refine ⟨?_, ⟨?_, fun m' hm' => ?_, by rw [blks_same]; exact h2c⟩, row_ch h3 CH (fun x hx hxq => (hd x (List.mem_singleton.1 hxq)).2.1 hx), row_ch h4 CH (fun x hx hxq => (hd x (List.mem_singleton.1 hxq)).2.2 hx), by unfold gblk; rw [blks_same]; exact h5⟩
  · show _ = setSlot G.objs k j e
    unfold setSlot
    rw [← h1, List.map_set, abs_getD]
    rfl
  · unfold OwnRow
    rw [cellsO_same, List.length_set]
    exact row_ch h2 CH (fun x hx hxq => (hd x (List.mem_singleton.1 hxq)).1 hx)
  · obtain ⟨i, hi, rfl⟩ := List.getElem_of_mem hm'
    rw [List.length_set] at hi
    rw [List.getElem_set]
    split
    · rename_i e1
      subst e1
      have O := h2b _ (mem_getD hk)
      show OwnR _ _ (ms.getD k moD).sv _
      rw [hv] at O ⊢
      exact ownR_set O j e
    · rename_i e1
      have hg : ms[i] = ms.getD i moD := by rw [List.getD_eq_getElem?_getD, List.getElem?_eq_getElem hi]; rfl
      rw [hg]
      refine row_ch (h2b _ (mem_getD hi)) CH (fun x hx hxq => ?_)
      refine ap2 i k hi hk (fun e => e1 e.symm) x hx ?_
      rw [hv, blk_some]
      exact hxq

theorem ownG_app {w w' : World} {base : Nat} {o o' r m : Value} {ms : List MO} {G : Gr} {m1 : MO} (h : OwnG w base o r m ms G) (h1 : OwnR w base m1.sv m1.slots) (hd : ∀ k ∈ blk m1.sv, k ∉ gblk o r m ms)
    (hrow : w'.ownsRow base 51 5 o' (ms.length + 1) (cellsO ms ++ cellsO [m1])) (hg : w.grownBy w' o.ownBlock) (hb : o'.ownBlock = o.ownBlock ∨ o'.ownBlock = some w.heap.size) :
    OwnG w' base o' r m (ms ++ [m1]) { G with objs := G.objs ++ [m1.abs] } ∧ Ch (blk o) w w' ∧ ∀ k ∈ gblk o' r m (ms ++ [m1]), k ∈ gblk o r m ms ∨ k ∈ blk m1.sv ∨ k = w.heap.size := by
  have CH : Ch (blk o) w w' := ch_grown hg
  have hlt := ownG_lt h
  have hlt1 := blk_lt h1
  obtain ⟨e1, ⟨h2, h2b, h2c⟩, h3, h4, h5⟩ := h
  have hbo : blk o' = blk o ∨ blk o' = [w.heap.size] := by
    unfold blk
    rcases hb with hb | hb
    · exact .inl (by rw [hb])
    · exact .inr (by rw [hb]; rfl)
  have h5' := h5
  simp only [gblk, List.nodup_append, List.mem_append] at h5'
  obtain ⟨⟨⟨n1, n2, d12⟩, n3, d123⟩, n4, d1234⟩ := h5'
  have ndO : (blk o' ++ (blks ms ++ blk m1.sv)).Nodup ∧ (gblk o' r m (ms ++ [m1])).Nodup := by
    have hm1 : ∀ x ∈ blk m1.sv, x ∉ blk o ∧ x ∉ blks ms ∧ x ∉ blk r ∧ x ∉ blk m := fun x hx => by
      have := hd x hx
      simp only [gblk, List.mem_append, not_or] at this
      exact ⟨this.1.1.1, this.1.1.2, this.1.2, this.2⟩
    have lo : ∀ x, x ∈ blk o ∨ x ∈ blks ms ∨ x ∈ blk r ∨ x ∈ blk m → x < w.heap.size := fun x hx => (hlt x (by simp only [gblk, List.mem_append]; rcases hx with h | h | h | h <;> simp [h])).2
    have ho' : ∀ x ∈ blk o', x ∉ blks ms ∧ x ∉ blk m1.sv ∧ x ∉ blk r ∧ x ∉ blk m := by
      intro x hx
      rcases hbo with hb' | hb'
      · rw [hb'] at hx
        exact ⟨fun e => d12 x hx x e rfl, fun e => (hm1 x e).1 hx, fun e => d123 x (.inl hx) x e rfl, fun e => d1234 x (.inl (.inl hx)) x e rfl⟩
      · rw [hb', List.mem_singleton] at hx
        subst hx
        refine ⟨fun e => ?_, fun e => ?_, fun e => ?_, fun e => ?_⟩
        · have := lo _ (.inr (.inl e)); omega
        · have := (hlt1 _ e).2; omega
        · have := lo _ (.inr (.inr (.inl e))); omega
        · have := lo _ (.inr (.inr (.inr e))); omega
    have a1 : (blks ms ++ blk m1.sv).Nodup := by
      rw [List.nodup_append]
      exact ⟨n2, blk_nodup _, fun a ha b hb e => (hm1 b hb).2.1 (e ▸ ha)⟩
    have a2 : (blk o' ++ (blks ms ++ blk m1.sv)).Nodup := by
      rw [List.nodup_append]
      refine ⟨blk_nodup _, a1, fun a ha b hb e => ?_⟩
      subst e
      rcases List.mem_append.1 hb with hb | hb
      · exact (ho' a ha).1 hb
      · exact (ho' a ha).2.1 hb
    refine ⟨a2, ?_⟩
    unfold gblk
    rw [blks_snoc, List.nodup_append, List.nodup_append]
    refine ⟨⟨a2, n3, fun a ha b hb e => ?_⟩, n4, fun a ha b hb e => ?_⟩
    · subst e
      rcases List.mem_append.1 ha with ha | ha
      · exact (ho' a ha).2.2.1 hb
      · rcases List.mem_append.1 ha with ha | ha
        · exact d123 a (.inr ha) a hb rfl
        · exact (hm1 a ha).2.2.1 hb
    · subst e
      rcases List.mem_append.1 ha with ha | ha
      · rcases List.mem_append.1 ha with ha | ha
        · exact (ho' a ha).2.2.2 hb
        · rcases List.mem_append.1 ha with ha | ha
          · exact d1234 a (.inl (.inr ha)) a hb rfl
          · exact (hm1 a ha).2.2.2 hb
      · exact d1234 a (.inr ha) a hb rfl
  have hS : ∀ x, x ∈ blks ms ∨ x ∈ blk m1.sv ∨ x ∈ blk r ∨ x ∈ blk m → x ∉ blk o := by
    intro x hx e
    rcases hx with hx | hx | hx | hx
    · exact d12 x e x hx rfl
    · exact hd x hx (by simp only [gblk, List.mem_append]; exact .inl (.inl (.inl e)))
    · exact d123 x (.inl e) x hx rfl
    · exact d1234 x (.inl (.inl e)) x hx rfl
  refine ⟨⟨?_, ⟨?_, fun m' hm' => ?_, by rw [blks_snoc]; exact ndO.1⟩, row_ch h3 CH (fun x hx => hS x (.inr (.inr (.inl hx)))), row_ch h4 CH (fun x hx => hS x (.inr (.inr (.inr hx)))), ndO.2⟩, CH, fun k hk => ?_⟩
  · show _ = G.objs ++ [m1.abs]
    rw [List.map_append, e1]
    rfl
  · unfold OwnRow
    rw [cellsO_append, List.length_append]
    exact hrow
  · rcases List.mem_append.1 hm' with hm' | hm'
    · refine row_ch (h2b _ hm') CH (fun x hx => hS x (.inl ?_))
      simp only [blks, List.mem_flatMap]
      exact ⟨m', hm', hx⟩
    · rw [List.mem_singleton] at hm'
      subst hm'
      exact row_ch h1 CH (fun x hx => hS x (.inr (.inl hx)))
  · simp only [gblk, blks_snoc, List.mem_append] at hk ⊢
    rcases hk with ((hk | hk | hk) | hk) | hk
    · rcases hbo with hb' | hb'
      · rw [hb'] at hk; exact .inl (.inl (.inl (.inl hk)))
      · rw [hb', List.mem_singleton] at hk; exact .inr (.inr hk)
    · exact .inl (.inl (.inl (.inr hk)))
    · exact .inr (.inl hk)
    · exact .inl (.inl (.inr hk))
    · exact .inl (.inr hk)

/-- A graph of the call's own in the block P. -/
def Held (w : World) (base P : Nat) (G : Gr) : Prop := ∃ o r m ms, Five w P 32 o r m (.int .i64 G.next) (.int .i64 G.seed) ∧ OwnG w base o r m ms G ∧ P ∉ gblk o r m ms ∧ base ≤ P
theorem held_below {w w' : World} {base P : Nat} {G : Gr} (h : Held w base P G) (hb : Below w.heap.size w w') : Held w' base P G := by
  obtain ⟨o, r, m, ms, h1, h2, h3, h4⟩ := h
  exact ⟨o, r, m, ms, five_below h1 hb, ownG_below h2 hb, h3, h4⟩
/-- The graph of nothing. -/
def gr0 : Gr := ⟨[], [], [], 0, 0⟩
theorem ownO_nil (w : World) (base : Nat) : OwnO w base (.slice none 0 0) [] := ⟨World.ownsRow_nil _ _ _ _, fun m hm => by simp at hm, by simp [blk, blks, Value.ownBlock]⟩
theorem ownG_zero (w : World) (base : Nat) : OwnG w base (.slice none 0 0) (.slice none 0 0) (.slice none 0 0) [] gr0 := ⟨rfl, ownO_nil w base, ownR_nil w base, ownR_nil w base, by simp [gblk, blk, blks, Value.ownBlock]⟩

/-- What the changes of a graph answer. -/
def copyRoot (G : Gr) (t f : Int) : Gr × Bool := if (inR 0 5 t && inR 0 5 f) = true then ({ G with roots := G.roots.set t.toNat (rootAt G f) }, true) else (G, false)
/-- The place of the object to which a root leads; none: -1. -/
def plc (G : Gr) (x : Int) : Nat := (atI G.objs (rootAt G x).2).toNat
def slotIn (G : Gr) (x s : Int) : Bool := inR 0 5 x && (rootAt G x).1 == 2 && (decide (0 ≤ s) && decide (s < (G.objs.getD (plc G x) obD).slots.length))
def fetch (G : Gr) (t f s : Int) : Gr × Bool := if (inR 0 5 t && slotIn G f s) = true then ({ G with roots := G.roots.set t.toNat ((G.objs.getD (plc G f) obD).slots.getD s.toNat refD) }, true) else (G, false)
def store (G : Gr) (t s f : Int) : Gr × Bool := if (inR 0 5 f && slotIn G t s) = true then ({ G with objs := setSlot G.objs (plc G t) s.toNat (rootAt G f) }, true) else (G, false)
def putR (G : Gr) (x : Int) (r : Rf) : Gr × Bool := if (inR 0 5 x && (r.1 != 2 && refOk G.objs r)) = true then ({ G with roots := G.roots.set x.toNat r }, true) else (G, false)
def drawn (s : Int) : Int := (25173 * s + 13849) % 65536
def made (G : Gr) (x c f s : Int) : Gr × Bool := if (inR 0 5 x && newOk c f s && (decide (G.objs.length ≠ 200) && decide (G.next ≠ 100000))) = true then (⟨G.objs ++ [⟨G.next, c, f, drawn G.seed, List.replicate s.toNat refD⟩], G.roots.set x.toNat (2, G.next), G.mourned, G.next + 1, drawn G.seed⟩, true) else (G, false)
def gCopied (G : Gr) (t f : Int) : Gr × Bool := if gOk G = true then copyRoot G t f else (gr0, false)
def gFetched (G : Gr) (t f s : Int) : Gr × Bool := if gOk G = true then fetch G t f s else (gr0, false)
def gStored (G : Gr) (t s f : Int) : Gr × Bool := if gOk G = true then store G t s f else (gr0, false)
def gPut (G : Gr) (x : Int) (r : Rf) : Gr × Bool := if gOk G = true then putR G x r else (gr0, false)
def gMade (G : Gr) (x c f s : Int) : Gr × Bool := if gOk G = true then made G x c f s else (gr0, false)
end Go.Proofs.Ytdogibjgogcdkal.gr
namespace Go.Proofs.Ytdogibjgogcdkal.gr
open Go.RowKit rows heads
set_option maxRecDepth 100000

set_option maxHeartbeats 1000000 in
theorem headOf_any (m : MO) {a : Option Addr} {n c : Nat} (hs : m.sv = .slice a n c) (w : World) :
    Calls Try.prog 93 #[ov m] w fun e w' => e = .returned (hv (n : Int) m.fmt m.cls m.hash false false) ∧ Below w.heap.size w w' := by
  obtain ⟨i, k, f, g, sv, sl⟩ := m
  simp only at hs
  subst hs
  go_enter Try.func93, Try.ntmps93
  go_wp2
  have A : HeadAt ((w.alloc (ob ⟨i, k, f, g, .slice a n c, sl⟩)).alloc (hb (n : Int) f k g false false)) (w.heap.size + 1) (n : Int) f k g false false := by
    have := headAt_new (w.alloc (ob ⟨i, k, f, g, .slice a n c, sl⟩)) (n : Int) f k g false false
    simpa using this
  exact bodyPost_ret (res_head rfl rfl A) rfl ⟨rfl, ((Below.refl _ w).alloc (Nat.le_refl _) _).alloc (by simp) _⟩

set_option maxHeartbeats 2000000 in
theorem idsOk_any {w : World} {v : Value} {ms : List MO} {os : List Ob} (h : OrowAt w v ms) (hsl : Slices ms) (ea : ms.map MO.abs = os) (hl : ms.length ≤ 1048576) (next : Int) :
    Calls Try.prog 66 #[v, .int .i64 next] w fun e w' => e = .returned (.bool (idsB os next)) ∧ Below w.heap.size w w' := by
  have hlen : os.length = ms.length := by rw [← ea]; simp
  have hid : ∀ i, (os.getD i obD).id = (ms.getD i moD).id := fun i => by rw [← ea, abs_getD]; rfl
  obtain ⟨a, cap, rfl, hlc, hcm, _, hc⟩ := h
  have HC : Hid _ := hc
  have HS : Hid _ := hsl
  have HLEN : Hid _ := hlen
  have HID : Hid _ := hid
  clear hc hsl hlen hid
  obtain ⟨RV, hRV⟩ : ∃ RV, idsB os next = RV := ⟨_, rfl⟩
  rw [hRV]
  have HRV : Hid _ := hRV
  clear hRV
  go_enter Try.func66, Try.ntmps66
  go_wp2_with fail
  go_loopw [5, 10] (fun p q wr => ∃ (k : Nat) (la : Int), k ≤ ms.length ∧ p = .int .i64 la ∧ q = .int .i64 k ∧ Hid (la = lastOf os k) ∧ (∀ i, i < k → (decide (lastOf os i < (os.getD i obD).id) && decide ((os.getD i obD).id < next)) = true) ∧ Below w.heap.size w wr) (fun _ q _ => ms.length - (intOf q).toNat)
  case atStart => exact ⟨0, 0, Nat.zero_le _, rfl, rfl, rfl, fun q hq => by omega, Below.refl _ _⟩
  case round =>
    obtain ⟨k, la, hk, rfl, rfl, HLA, hall, hB⟩ := hrel
    have HA : Hid _ := hall
    have HB : Hid _ := hB
    have szr := hB.size
    clear hall
    by_cases hlt : k < ms.length
    · obtain ⟨b, off, rfl, hb, hcc⟩ := HC.out (by omega)
      obtain ⟨x0, x1, x2, x3, x4⟩ := hcc k hlt
      have c0 := (hB.cell (p := ⟨b, off + k * 5, none⟩) hb).trans x0
      have c1 := (hB.cell (p := ⟨b, off + k * 5 + 1, none⟩) hb).trans x1
      have c2 := (hB.cell (p := ⟨b, off + k * 5 + 2, none⟩) hb).trans x2
      have c3 := (hB.cell (p := ⟨b, off + k * 5 + 3, none⟩) hb).trans x3
      have c4 := (hB.cell (p := ⟨b, off + k * 5 + 4, none⟩) hb).trans x4
      obtain ⟨sa, sn, sc, hsv⟩ := HS.out _ (mem_getD hlt)
      have HX : Hid (¬ (la < (ms.getD k moD).id ∧ (ms.getD k moD).id < next) → RV = false) := fun e => by
        rw [← HRV.out]
        refine rangeAll_not (i := k) (by rw [HLEN.out]; exact hlt) ?_
        rw [HID.out, ← HLA.out]
        cases d : (decide (la < (ms.getD k moD).id) && decide ((ms.getD k moD).id < next))
        · rfl
        · simp only [Bool.and_eq_true, decide_eq_true_eq] at d; exact absurd d e
      have HY : Hid (la < (ms.getD k moD).id ∧ (ms.getD k moD).id < next → ∀ q, q < k + 1 → (decide (lastOf os q < (os.getD q obD).id) && decide ((os.getD q obD).id < next)) = true) := fun e q hq => by
        by_cases e' : q = k
        · rw [e', HID.out, ← HLA.out, decide_eq_true e.1, decide_eq_true e.2]; rfl
        · exact HA.out q (by omega)
      have HN : Hid ((ms.getD k moD).id = lastOf os (k + 1)) := (HID.out k).symm
      have HB2 : Hid (Below w.heap.size w (wr.alloc (ob (ms.getD k moD)))) := hB.alloc szr _
      clear hcc HC HS hB x0 x1 x2 x3 x4 HLEN HID HA HB HRV HLA
      generalize ms.getD k moD = x at *
      obtain ⟨xi, xc, xf, xh, xv, xs⟩ := x
      simp only at hsv HX HY HN
      subst hsv
      by_cases d1 : xi ≤ la
      · have ER : Hid _ := HX.out (by omega)
        clear HX HY HN
        go_wp2
        go_ret
        exact ⟨by rw [ER.out]; rfl, HB2⟩
      · by_cases d2 : xi ≥ next
        · have ER : Hid _ := HX.out (by omega)
          clear HX HY HN
          go_wp2
          go_ret
          exact ⟨by rw [ER.out]; rfl, HB2⟩
        · have HY2 : Hid _ := HY.out (by omega)
          clear HX HY
          go_wp2
          exact ⟨⟨k + 1, xi, by omega, rfl, by go_num, HN, HY2, HB2⟩, by simp [intOf]; omega⟩
    · have e : k = ms.length := by omega
      subst e
      have ER : Hid (RV = true) := by show _ = _; rw [← HRV.out]; exact rangeAll_yes (fun i hi => HA.out i (by rw [HLEN.out] at hi; exact hi))
      clear HA HC HS hB HRV HLA HLEN HID
      go_wp2
      go_ret
      exact ⟨by rw [ER.out]; rfl, HB⟩

set_option maxHeartbeats 2000000 in
theorem objsOk_any {w : World} {v : Value} {ms : List MO} {os : List Ob} (h : ObjsAt w v ms) (ea : ms.map MO.abs = os) (hr : Rise os) (hl : ms.length ≤ 1048576) (hsz : ∀ m ∈ ms, m.slots.length ≤ 1048576) :
    Calls Try.prog 67 #[v] w fun e w' => e = .returned (.bool (objsB os)) ∧ Below w.heap.size w w' := by
  have hlen : os.length = ms.length := by rw [← ea]; simp
  have hob : ∀ i, os.getD i obD = (ms.getD i moD).abs := fun i => by rw [← ea, abs_getD]
  have hsl := objs_slices h
  have HROW : Hid _ := h.1
  have HREF : Hid _ := h.2
  obtain ⟨⟨a, cap, rfl, hlc, hcm, _, hc⟩, _⟩ := h
  have HC : Hid _ := hc
  have HLEN : Hid _ := hlen
  have HOB : Hid _ := hob
  have HSZ : Hid _ := hsz
  have HSL : Hid _ := hsl
  clear hc hlen hob hsz hsl
  obtain ⟨RV, hRV⟩ : ∃ RV, objsB os = RV := ⟨_, rfl⟩
  rw [hRV]
  have HRV : Hid _ := hRV
  clear hRV
  go_enter Try.func67, Try.ntmps67
  go_wp2_with fail
  go_loopw [7] (fun q wr => ∃ k : Nat, k ≤ ms.length ∧ q = .int .i64 k ∧ (∀ i, i < k → objB os i = true) ∧ Below w.heap.size w wr) (fun q _ => ms.length - (intOf q).toNat)
  case atStart => exact ⟨0, Nat.zero_le _, rfl, fun q hq => by omega, Below.refl _ _⟩
  case round =>
    obtain ⟨k, hk, rfl, hall, hB⟩ := hrel
    have HA : Hid _ := hall
    have HB : Hid _ := hB
    have szr := hB.size
    clear hall
    by_cases hlt : k < ms.length
    · have HRO : Hid (∀ W, Below w.heap.size w W → _) := fun W hW => refsOk_any (refsAt_below (HREF.out _ (mem_getD hlt)) hW) (orowAt_below HROW.out hW) HSL.out ea hr hl (HSZ.out _ (mem_getD hlt))
      obtain ⟨sa, sc, hsv, _⟩ := HREF.out _ (mem_getD hlt)
      obtain ⟨b, off, rfl, hb, hcc⟩ := HC.out (by omega)
      obtain ⟨x0, x1, x2, x3, x4⟩ := hcc k hlt
      have c0 := (hB.cell (p := ⟨b, off + k * 5, none⟩) hb).trans x0
      have c1 := (hB.cell (p := ⟨b, off + k * 5 + 1, none⟩) hb).trans x1
      have c2 := (hB.cell (p := ⟨b, off + k * 5 + 2, none⟩) hb).trans x2
      have c3 := (hB.cell (p := ⟨b, off + k * 5 + 3, none⟩) hb).trans x3
      have c4 := (hB.cell (p := ⟨b, off + k * 5 + 4, none⟩) hb).trans x4
      have EOB : Hid (objB os k = (fok ((ms.getD k moD).slots.length : Int) (ms.getD k moD).fmt (ms.getD k moD).cls (ms.getD k moD).hash false false && refsB os (ms.getD k moD).slots)) := by
        show _ = _
        unfold objB slOk
        rw [HOB.out]
        rfl
      have HX : Hid (objB os k = false → RV = false) := fun e => by
        rw [← HRV.out]
        exact rangeAll_not (i := k) (by rw [HLEN.out]; exact hlt) e
      have HY : Hid (objB os k = true → ∀ q, q < k + 1 → objB os q = true) := fun e q hq => by
        by_cases e' : q = k
        · rw [e']; exact e
        · exact HA.out q (by omega)
      have B2 : Below w.heap.size w (wr.alloc (ob (ms.getD k moD))) := hB.alloc szr _
      have HH := headOf_any (ms.getD k moD) hsv (wr.alloc (ob (ms.getD k moD)))
      have T : Five (wr.alloc (ob (ms.getD k moD))) wr.heap.size 51 (.int .i64 (ms.getD k moD).id) (.int .i64 (ms.getD k moD).cls) (.int .i64 (ms.getD k moD).fmt) (.int .i64 (ms.getD k moD).hash) (ms.getD k moD).sv := five_new wr _ _ _ _ _ _
      have HT : Hid _ := T
      have HB2 : Hid _ := B2
      have sz2 := B2.size
      clear hcc HC hB x0 x1 x2 x3 x4 HLEN HOB HA HB HRV HROW HREF HSZ HSL T B2
      generalize ms.getD k moD = x at *
      obtain ⟨xi, xc, xf, xh, xv, xs⟩ := x
      simp only at hsv EOB
      subst hsv
      simp only [ov] at HH
      go_wp2_with fail
      generalize (wr.alloc (ob ⟨xi, xc, xf, xh, .slice sa xs.length sc, xs⟩)) = X at *
      refine HH.mono ?_
      rintro e w1 ⟨rfl, b1⟩
      have T1 := five_below HT.out b1
      have B3 := HB2.out.trans (b1.mono sz2)
      have sz3 := B3.size
      have OH := objectHeadOk_any (xs.length : Int) xf xc xh false false w1
      have HT1 : Hid _ := T1
      have HB3 : Hid _ := B3
      clear HH HT HB2 b1 T1 B3
      generalize fok (xs.length : Int) xf xc xh false false = fo at *
      go_wp2_with fail
      refine OH.mono ?_
      rintro e w2 ⟨rfl, b2⟩
      have T2 := five_below HT1.out b2
      have B4 := HB3.out.trans (b2.mono sz3)
      have sz4 := B4.size
      have RO := HRO.out w2 B4
      obtain ⟨_, _, _, _, z4, _⟩ := five_cells T2
      have HB4 : Hid _ := B4
      clear OH HT1 HB3 b2 T2 B4 HRO
      cases fo
      · have ER : Hid _ := HX.out (by rw [EOB.out]; rfl)
        clear HX HY EOB RO
        go_wp2
        go_ret
        exact ⟨by rw [ER.out]; rfl, HB4⟩
      · simp only [Bool.true_and] at EOB
        cases d : refsB os xs
        · have ER : Hid _ := HX.out (by rw [EOB.out]; exact d)
          rw [d] at RO
          clear HX HY EOB d
          go_wp2_with (go_at_call 94; refine RO.mono ?_; rintro e w3 ⟨rfl, b3⟩; have HB5 : Hid _ := HB4.out.trans (b3.mono sz4); clear b3 RO)
          go_ret
          exact ⟨by rw [ER.out]; rfl, HB5⟩
        · have HY2 : Hid _ := HY.out (by rw [EOB.out]; exact d)
          rw [d] at RO
          clear HX HY EOB d
          go_wp2_with (go_at_call 94; refine RO.mono ?_; rintro e w3 ⟨rfl, b3⟩; have HB5 : Hid _ := HB4.out.trans (b3.mono sz4); clear b3 RO)
          exact ⟨⟨k + 1, by omega, by go_num, HY2, HB5⟩, by simp [intOf]; omega⟩
    · have e : k = ms.length := by omega
      subst e
      have ER : Hid (RV = true) := by show _ = _; rw [← HRV.out]; exact rangeAll_yes (fun i hi => HA.out i (by rw [HLEN.out] at hi; exact hi))
      clear HA HC hB HRV HLEN HOB HROW HREF HSZ HSL
      go_wp2
      go_ret
      exact ⟨by rw [ER.out]; rfl, HB⟩

set_option maxHeartbeats 2000000 in
theorem rootsOk_any {w : World} {o r m : Value} {ms : List MO} {G : Gr} (h : GraphAt w o r m ms G) (hs : gSize ms G ≤ 1048576) (hr : Rise G.objs) :
    Calls Try.prog 68 #[gv o r m G.next G.seed] w fun e w' => e = .returned (.bool (rootsB G)) ∧ Below w.heap.size w w' := by
  have hsz : ms.length ≤ 1048576 ∧ G.roots.length ≤ 1048576 ∧ G.mourned.length ≤ 1048576 := by unfold gSize at hs; omega
  obtain ⟨ea, hO, hR, hM⟩ := h
  have hsl := objs_slices hO
  have HLA : Hid (∀ W, Below w.heap.size w W → _) := fun W hW => leadsAll_any (refsAt_below hM hW) hsz.2.2
  have HRR : Hid (∀ W, Below w.heap.size w W → _) := fun W hW => refsOk_any (refsAt_below hR hW) (orowAt_below hO.1 hW) hsl ea hr hsz.1 hsz.2.1
  have HRM : Hid (∀ W, Below w.heap.size w W → _) := fun W hW => refsOk_any (refsAt_below hM hW) (orowAt_below hO.1 hW) hsl ea hr hsz.1 hsz.2.2
  have hrl : ∃ a c, r = .slice a G.roots.length c := by obtain ⟨a, c, e, _⟩ := hR; exact ⟨a, c, e⟩
  have hml : ∃ a c, m = .slice a G.mourned.length c := by obtain ⟨a, c, e, _⟩ := hM; exact ⟨a, c, e⟩
  have hol : ∃ a n c, o = .slice a n c := by obtain ⟨⟨a, c, e, _⟩, _⟩ := hO; exact ⟨a, _, c, e⟩
  obtain ⟨a1, n1, c1, rfl⟩ := hol
  obtain ⟨a2, c2, rfl⟩ := hrl
  obtain ⟨a3, c3, rfl⟩ := hml
  have B : Below w.heap.size w (w.alloc (gb (.slice a1 n1 c1) (.slice a2 G.roots.length c2) (.slice a3 G.mourned.length c3) G.next G.seed)) := (Below.refl _ w).alloc (Nat.le_refl _) _
  have T := five_new w 32 (.slice a1 n1 c1) (.slice a2 G.roots.length c2) (.slice a3 G.mourned.length c3) (.int .i64 G.next) (.int .i64 G.seed)
  obtain ⟨RV, hRV⟩ : ∃ RV, rootsB G = RV := ⟨_, rfl⟩
  rw [hRV]
  have HRV : Hid _ := hRV
  have HB : Hid _ := B
  have HT : Hid _ := T
  clear hRV B T hO hR hM hsl ea
  generalize G.next = gn at *
  generalize G.seed = gs at *
  unfold rootsB at HRV
  generalize hlr : G.roots.length = lr at *
  generalize hlm : G.mourned.length = lm at *
  clear hlr hlm
  go_enter Try.func68, Try.ntmps68
  by_cases e6 : lr = 6
  · subst e6
    by_cases e40 : lm ≤ 40
    · have eRV : Hid (RV = (leadB G.mourned && (refsB G.objs G.roots && refsB G.objs G.mourned))) := by show _ = _; rw [← HRV.out]; simp [e40]
      have n40 : ¬ (lm : Int) > 40 := by omega
      clear HRV
      go_wp2_with fail
      have LA := HLA.out _ HB.out
      have T0 := HT.out
      generalize (w.alloc (gb (.slice a1 n1 c1) (.slice a2 6 c2) (.slice a3 lm c3) gn gs)) = X at *
      refine LA.mono ?_
      rintro e w1 ⟨rfl, b1⟩
      have T1 := five_below T0 b1
      have B1 := HB.out.trans (b1.mono HB.out.size)
      have RR := HRR.out _ B1
      obtain ⟨z0, z1, z2, _, _, _⟩ := five_cells T1
      have sz1 := B1.size
      have HB1 : Hid _ := B1
      have HT1 : Hid _ := T1
      clear LA HLA HRR HT HB T0 T1 b1 B1
      cases d1 : leadB G.mourned
      · have ER : Hid (RV = false) := by show _ = _; rw [eRV.out, d1]; rfl
        clear eRV RR HRM
        go_wp2
        go_ret
        exact ⟨by rw [ER.out]; rfl, HB1⟩
      · go_wp2_with fail
        refine RR.mono ?_
        rintro e w2 ⟨rfl, b2⟩
        have T2 := five_below HT1.out b2
        have B2 := HB1.out.trans (b2.mono sz1)
        have RM := HRM.out _ B2
        have HB2 : Hid _ := B2
        have sz2 := B2.size
        clear z0 z1 z2
        obtain ⟨z0, z1, z2, _, _, _⟩ := five_cells T2
        clear RR HRM HT1 T2 b2 B2 HB1
        cases d2 : refsB G.objs G.roots
        · have ER : Hid (RV = false) := by show _ = _; rw [eRV.out, d1, d2]; rfl
          clear eRV RM
          go_wp2
          go_ret
          exact ⟨by rw [ER.out]; rfl, HB2⟩
        · have ER : Hid (RV = refsB G.objs G.mourned) := by show _ = _; rw [eRV.out, d1, d2]; rfl
          clear eRV
          generalize refsB G.objs G.mourned = bm at *
          go_wp2_with fail
          refine RM.mono ?_
          rintro e w3 ⟨rfl, b3⟩
          have HB3 : Hid _ := HB2.out.trans (b3.mono sz2)
          clear RM HB2 b3
          go_wp2
          go_ret
          exact ⟨by rw [ER.out]; rfl, HB3⟩
    · have ER : Hid (RV = false) := by show _ = _; rw [← HRV.out]; simp [e40]
      have n40 : (lm : Int) > 40 := by omega
      clear HRV HLA HRR HRM HT
      go_wp2
      go_ret
      exact ⟨by rw [ER.out]; rfl, HB⟩
  · have ER : Hid (RV = false) := by show _ = _; rw [← HRV.out]; simp [e6]
    have n6 : ((lr : Int) != 6) = true := by simp; omega
    clear HRV HLA HRR HRM HT
    go_wp2
    go_ret
    exact ⟨by rw [ER.out]; rfl, HB⟩
end Go.Proofs.Ytdogibjgogcdkal.gr
