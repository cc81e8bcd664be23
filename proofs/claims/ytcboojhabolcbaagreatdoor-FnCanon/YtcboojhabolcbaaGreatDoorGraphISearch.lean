/-
  Chapter 6 as the program has it: the place of an Id among Ids that rise (slices.BinarySearchFunc).
  Made from the template GraphISearch.
-/
import Derived.Test.YtcboojhabolcbaaGreatDoorM5
import Derived.Test.YtcboojhabolcbaaGreatDoorHeadOk
namespace Go.Proofs.YtcboojhabolcbaaGreatDoor.gr
open Go.RowKit rows heads
set_option maxRecDepth 100000

def cmpI (x y : Int) : Int := if x < y then -1 else if y < x then 1 else 0
theorem isNaN_any (x : Int) (w : World) : Calls Tryz.prog 100 #[.int .i64 x] w fun e w' => e = .returned (.bool false) ∧ w' = w := by
  have hx : (x != x) = false := by simp
  go_enter Tryz.func100, Tryz.ntmps100
  go_wp2
  go_ret
  exact ⟨by simp, rfl⟩
theorem compare_any (x y : Int) (w : World) : Calls Tryz.prog 91 #[.int .i64 x, .int .i64 y] w fun e w' => e = .returned (.int .i64 (cmpI x y)) ∧ w' = w := by
  generalize hc : cmpI x y = cc
  by_cases h1 : x < y
  · have EC : Hid (cc = -1) := by show _ = _; rw [← hc]; unfold cmpI; rw [if_pos h1]
    clear hc
    go_enter Tryz.func91, Tryz.ntmps91
    go_wp2_with (go_at_call 100; refine (isNaN_any _ _).mono ?_; rintro e w1 ⟨rfl, rfl⟩)
    go_ret
    exact ⟨by rw [EC.out]; rfl, rfl⟩
  · by_cases h2 : y < x
    · have EC : Hid (cc = 1) := by show _ = _; rw [← hc]; unfold cmpI; rw [if_neg h1, if_pos h2]
      clear hc
      go_enter Tryz.func91, Tryz.ntmps91
      go_wp2_with (go_at_call 100; refine (isNaN_any _ _).mono ?_; rintro e w1 ⟨rfl, rfl⟩)
      go_ret
      exact ⟨by rw [EC.out]; rfl, rfl⟩
    · have EC : Hid (cc = 0) := by show _ = _; rw [← hc]; unfold cmpI; rw [if_neg h1, if_neg h2]
      clear hc
      go_enter Tryz.func91, Tryz.ntmps91
      go_wp2_with (go_at_call 100; refine (isNaN_any _ _).mono ?_; rintro e w1 ⟨rfl, rfl⟩)
      go_ret
      exact ⟨by rw [EC.out]; rfl, rfl⟩
theorem atId_any (m : MO) (hs : ∃ a n c, m.sv = .slice a n c) (id : Int) (w : World) : Calls Tryz.prog 90 #[ov m, .int .i64 id] w fun e w' => e = .returned (.int .i64 (cmpI m.id id)) ∧ Below w.heap.size w w' := by
  obtain ⟨i, c, f, g, sv, sl⟩ := m
  obtain ⟨a, n, cp, hs⟩ := hs
  simp only at hs
  subst hs
  have B : Below w.heap.size w (w.alloc (ob ⟨i, c, f, g, .slice a n cp, sl⟩)) := (Below.refl _ w).alloc (Nat.le_refl _) _
  have HB : Hid _ := B
  clear B
  have C := fun w => compare_any i id w
  generalize hc : cmpI i id = cc at *
  clear hc
  go_enter Tryz.func90, Tryz.ntmps90
  go_wp2_with (go_at_call 91; refine (C _).mono ?_; rintro e w1 ⟨rfl, rfl⟩)
  go_ret
  exact ⟨rfl, HB⟩

/-- Where a search among these objects ends. -/
def EndsM (ms : List MO) (id : Int) (i : Nat) : Prop := i ≤ ms.length ∧ (∀ t, t < i → (ms.getD t moD).id < id) ∧ ∀ t, i ≤ t → t < ms.length → id ≤ (ms.getD t moD).id
def RiseM (ms : List MO) : Prop := ∀ i j, i < j → j < ms.length → (ms.getD i moD).id < (ms.getD j moD).id
set_option maxHeartbeats 4000000 in
theorem binSearch_any {w : World} {v : Value} {ms : List MO} (h : OrowAt w v ms) (hsl : Slices ms) (hr : RiseM ms) (hl : ms.length ≤ 1048576) (id : Int) :
    Calls Tryz.prog 89 #[v, .int .i64 id, .func (.func 90) #[] #[]] w fun e w' => ∃ i : Nat, EndsM ms id i ∧ e = .returned (.tuple #[.int .i64 i, .bool (decide (i < ms.length) && decide ((ms.getD i moD).id = id))]) ∧ Below w.heap.size w w' := by
  obtain ⟨a, cap, rfl, hlc, hcm, _, hc⟩ := h
  have hcm' : cap ≤ 9223372036854775807 := hcm
  have HC : Hid _ := hc
  have HR : Hid _ := hr
  have HS : Hid _ := hsl
  clear hc hr hsl
  go_enter Tryz.func89, Tryz.ntmps89
  go_wp2_with fail
  go_loopw [9, 10] (fun p q wr => ∃ lo hi : Nat, p = .int .i64 lo ∧ q = .int .i64 hi ∧ lo ≤ hi ∧ hi ≤ ms.length ∧ (∀ t, t < lo → (ms.getD t moD).id < id) ∧ (∀ t, hi ≤ t → t < ms.length → id ≤ (ms.getD t moD).id) ∧ Below w.heap.size w wr) (fun p q _ => (intOf q).toNat - (intOf p).toNat)
  case atStart => exact ⟨0, ms.length, rfl, rfl, Nat.zero_le _, Nat.le_refl _, fun t ht => by omega, fun t h1 h2 => by omega, Below.refl _ _⟩
  case round =>
    obtain ⟨lo, hi, rfl, rfl, hlh, hhn, hlo, hhi, hB⟩ := hrel
    have HLO : Hid _ := hlo
    have HHI : Hid _ := hhi
    have HB : Hid _ := hB
    clear hlo hhi hB
    by_cases hlt : lo < hi
    · have hm1 : lo ≤ (lo + hi) / 2 ∧ (lo + hi) / 2 < hi := by omega
      have ediv : ((lo : Int) + (hi : Int)).fdiv (2 ^ min (Int.toNat 1) IntKind.u64.bits) = ((lo : Int) + (hi : Int)) / 2 := by
        rw [show (2 : Int) ^ min (Int.toNat 1) IntKind.u64.bits = 2 by decide, Int.fdiv_eq_ediv_of_nonneg _ (by decide)]
      obtain ⟨b, off, rfl, hb, hcc⟩ := HC.out (by omega)
      obtain ⟨x0, x1, x2, x3, x4⟩ := hcc ((lo + hi) / 2) (by omega)
      have c0 := (HB.out.cell (p := ⟨b, off + ((lo + hi) / 2) * 5, none⟩) hb).trans x0
      have c1 := (HB.out.cell (p := ⟨b, off + ((lo + hi) / 2) * 5 + 1, none⟩) hb).trans x1
      have c2 := (HB.out.cell (p := ⟨b, off + ((lo + hi) / 2) * 5 + 2, none⟩) hb).trans x2
      have c3 := (HB.out.cell (p := ⟨b, off + ((lo + hi) / 2) * 5 + 3, none⟩) hb).trans x3
      have c4 := (HB.out.cell (p := ⟨b, off + ((lo + hi) / 2) * 5 + 4, none⟩) hb).trans x4
      have A := atId_any (ms.getD ((lo + hi) / 2) moD) (HS.out _ (mem_getD (by omega))) id wr
      obtain ⟨sa, sn, sc, hsv⟩ := HS.out _ (mem_getD (show ((lo + hi) / 2) < ms.length by omega))
      have HUP : Hid ((ms.getD ((lo + hi) / 2) moD).id < id → ∀ t, t < ((lo + hi) / 2) + 1 → (ms.getD t moD).id < id) := fun e t ht => by
        by_cases e' : t = ((lo + hi) / 2)
        · rw [e']; exact e
        · have := HR.out t ((lo + hi) / 2) (by omega) (by omega)
          omega
      have HDN : Hid (¬ (ms.getD ((lo + hi) / 2) moD).id < id → ∀ t, ((lo + hi) / 2) ≤ t → t < ms.length → id ≤ (ms.getD t moD).id) := fun e t h1 h2 => by
        by_cases e' : t = ((lo + hi) / 2)
        · rw [e']; omega
        · have := HR.out ((lo + hi) / 2) t (by omega) h2
          omega
      clear hcc HC HS HR x0 x1 x2 x3 x4
      generalize ms.getD ((lo + hi) / 2) moD = x at *
      obtain ⟨xi, xc, xf, xh, xv, xs⟩ := x
      simp only at hsv HUP HDN
      subst hsv
      simp only [ov] at A
      have hcut : cmpI xi id < 0 ↔ xi < id := by unfold cmpI; split <;> (try split) <;> omega
      have HB0 : Hid _ := HB.out
      have szr := HB.out.size
      by_cases hx : xi < id
      · have hneg := hcut.2 hx
        have HUP2 : Hid _ := HUP.out hx
        generalize cmpI xi id = cc at *
        clear HUP HDN HLO hx hcut
        go_wp2_with (go_at_call 90; refine A.mono ?_; rintro e w1 ⟨rfl, b1⟩; have HB1 : Hid _ := HB0.out.trans (b1.mono szr); clear b1 A HB0 HB)
        exact ⟨⟨((lo + hi) / 2) + 1, hi, by go_num, rfl, by omega, hhn, HUP2, HHI, HB1⟩, by simp [intOf]; omega⟩
      · have hneg : ¬ cmpI xi id < 0 := fun e => hx (hcut.1 e)
        have HDN2 : Hid _ := HDN.out hx
        generalize cmpI xi id = cc at *
        clear HUP HDN HHI hx hcut
        go_wp2_with (go_at_call 90; refine A.mono ?_; rintro e w1 ⟨rfl, b1⟩; have HB1 : Hid _ := HB0.out.trans (b1.mono szr); clear b1 A HB0 HB)
        exact ⟨⟨lo, ((lo + hi) / 2), rfl, by go_num, by omega, by omega, HLO, HDN2, HB1⟩, by simp [intOf]; omega⟩
    · have e : hi = lo := by omega
      subst e
      have HE : Hid (EndsM ms id hi) := ⟨hhn, HLO.out, HHI.out⟩
      clear HLO HHI HR
      by_cases hn : hi < ms.length
      · obtain ⟨b, off, rfl, hb, hcc⟩ := HC.out (by omega)
        obtain ⟨x0, x1, x2, x3, x4⟩ := hcc hi (by omega)
        have c0 := (HB.out.cell (p := ⟨b, off + hi * 5, none⟩) hb).trans x0
        have c1 := (HB.out.cell (p := ⟨b, off + hi * 5 + 1, none⟩) hb).trans x1
        have c2 := (HB.out.cell (p := ⟨b, off + hi * 5 + 2, none⟩) hb).trans x2
        have c3 := (HB.out.cell (p := ⟨b, off + hi * 5 + 3, none⟩) hb).trans x3
        have c4 := (HB.out.cell (p := ⟨b, off + hi * 5 + 4, none⟩) hb).trans x4
        have A := atId_any (ms.getD hi moD) (HS.out _ (mem_getD (by omega))) id wr
        obtain ⟨sa, sn, sc, hsv⟩ := HS.out _ (mem_getD (show hi < ms.length by omega))
        have szr := HB.out.size
        obtain ⟨bb, hbb⟩ : ∃ bb, (decide (hi < ms.length) && decide ((ms.getD hi moD).id = id)) = bb := ⟨_, rfl⟩
        have HBB : Hid _ := hbb
        have HV : Hid (bb = (cmpI (ms.getD hi moD).id id == 0)) := by
          show _ = _
          rw [← hbb, Bool.eq_iff_iff]
          simp only [Bool.and_eq_true, decide_eq_true_eq, beq_iff_eq]
          unfold cmpI
          split <;> (try split) <;> omega
        clear hcc HC HS x0 x1 x2 x3 x4 hbb
        generalize hxx : ms.getD hi moD = x at *
        obtain ⟨xi, xc, xf, xh, xv, xs⟩ := x
        simp only at hsv
        subst hsv
        simp only [ov] at A
        simp only at HV
        have HXX : Hid _ := hxx
        clear hxx
        generalize cmpI xi id = cc at *
        cases hcc : (cc == 0)
        · rw [hcc] at HV
          go_wp2_with (go_at_call 90; refine A.mono ?_; rintro e w1 ⟨rfl, b1⟩; have HB1 : Hid _ := HB.out.trans (b1.mono szr); clear b1 A)
          refine bodyPost_ret (v := .tuple #[.int .i64 hi, .bool false]) (by simp [results, Tryz.results89, go_sem]) rfl ⟨hi, HE, by rw [HXX.out, HBB.out, HV.out], HB1⟩
        · rw [hcc] at HV
          go_wp2_with (go_at_call 90; refine A.mono ?_; rintro e w1 ⟨rfl, b1⟩; have HB1 : Hid _ := HB.out.trans (b1.mono szr); clear b1 A)
          refine bodyPost_ret (v := .tuple #[.int .i64 hi, .bool true]) (by simp [results, Tryz.results89, go_sem]) rfl ⟨hi, HE, by rw [HXX.out, HBB.out, HV.out], HB1⟩
      · have HV : Hid ((decide (hi < ms.length) && decide ((ms.getD hi moD).id = id)) = false) := by
          show _ = _
          simp [hn]
        clear HC HS
        go_wp2
        refine bodyPost_ret (v := .tuple #[.int .i64 hi, .bool false]) (by simp [results, Tryz.results89, go_sem]) rfl ⟨hi, HE, by rw [HV.out], HB⟩

theorem placeOf_any {w : World} {v : Value} {ms : List MO} (h : OrowAt w v ms) (hsl : Slices ms) (hr : RiseM ms) (hl : ms.length ≤ 1048576) (id : Int) :
    Calls Tryz.prog 76 #[v, .int .i64 id] w fun e w' => ∃ i : Nat, EndsM ms id i ∧ e = .returned (.tuple #[.int .i64 i, .bool (decide (i < ms.length) && decide ((ms.getD i moD).id = id))]) ∧ Below w.heap.size w w' := by
  have S := binSearch_any h hsl hr hl id
  obtain ⟨a, cap, rfl, hlc, hcm, _, hc⟩ := h
  clear hc
  go_enter Tryz.func76, Tryz.ntmps76
  go_wp2_with fail
  refine S.mono ?_
  rintro e w1 ⟨i, hE, rfl, b1⟩
  have HE : Hid _ := hE
  have HB : Hid _ := b1
  clear S hE b1
  generalize hbb : (decide (i < ms.length) && decide ((ms.getD i moD).id = id)) = bb at *
  have HBB : Hid _ := hbb
  clear hbb
  go_wp2
  exact bodyPost_ret (v := .tuple #[.int .i64 i, .bool bb]) (by simp [results, Tryz.results76, go_sem]) rfl ⟨i, HE, by rw [HBB.out], HB⟩
end Go.Proofs.YtcboojhabolcbaaGreatDoor.gr
