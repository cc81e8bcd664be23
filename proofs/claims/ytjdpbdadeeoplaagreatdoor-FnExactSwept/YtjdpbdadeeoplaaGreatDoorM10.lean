/-
  Chapter 8 as the program has it: a free chunk written into a row. Chapter 8 as the specification has it: a free chunk written, what is freed. Chapter 9: a new heap; by the specification and by the program. Chapter 9: a new heap, where its numbers are right; by the specification. Chapter 9: what the program's NewHeap leans on: even numbers within bounds, a row of six words.
-/
import Derived.Test.YtjdpbdadeeoplaaGreatDoorM4
import Derived.Test.YtjdpbdadeeoplaaGreatDoorM1
import Derived.Test.YtjdpbdadeeoplaaGreatDoorM9
import Derived.Test.YtjdpbdadeeoplaaGreatDoorM3
import Derived.Deep.RegionLaw
import Derived.Test.YtjdpbdadeeoplaaGreatDoorM7
import Derived.Test.YtjdpbdadeeoplaaGreatDoorM8
import Derived.Deep.Upon
import Derived.Lib.Hide
import Derived.Maps.AppendAt
namespace Go.Proofs.YtjdpbdadeeoplaaGreatDoor.walks
open Go.RowKit rows heads words
set_option maxRecDepth 100000

abbrev fcv (k n : Int) : Value := .agg #[.int .i64 k, .int .i64 n]
abbrev fcb (k n : Int) : Obj := .cells #[.int .i64 k, .int .i64 n] 121

theorem end_any (k n : Nat) (h : k + n ≤ 1048576) (w : World) :
    Calls Tryz.prog 124 #[fcv k n] w fun e w' => e = .returned (.int .i64 ((k + n : Nat) : Int)) ∧ w' = w.alloc (fcb k n) := by
  go_enter Tryz.func124, Tryz.ntmps124
  go_wp2
  go_ret
  exact ⟨by go_num, rfl⟩

theorem zeroI : ∀ w, (zeroValue 2).run Tryz.prog w = .ok (.int .i64 0) w := fun w => by go_simp
theorem splice_fill {xs : List Int} {k n : Nat} : splice (cellsOf xs) k (List.replicate n (.int .i64 0)) = cellsOf (fill xs k n 0) := by
  simp [splice, cellsOf, fill, List.map_take, List.map_drop]
/-- 'clear' on a piece of a block of numbers, within a region that draws its order. -/
theorem step_clear_ints {w : World} {ops : Array Oper} {o : Oper} {a : Act} {K : Act → World → Prop} {Q : Exit → Act → World → Prop} {E : Prop} (hgd : o.guard = none) (s : Operand)
    (ho : o.op = .call { callee := .builtin .clear, args := #[s], argTypes := #[22] }) {g k n c : Nat} {xs : List Int} (hs : a.eval s = .slice (some ⟨g, k, none⟩) n c) (hn : 0 < n) (hF : Full w g xs) (hfit : k + n ≤ xs.length)
    (h : ∀ w', Hid (Full w' g (fill xs k n 0)) → Hid (w.grownBy w' (some g)) → K (a.put o.dst (.tuple #[])) w') :
    if Region.wanted o (yielded ops a.tmps) = true then Oper.wp Tryz.prog o a w K Q else E := by
  have hw : Region.wanted o (yielded ops a.tmps) = true := by simp [Region.wanted, hgd]
  rw [if_pos hw]
  have hz : (Builtin.zeroCells (Value.int .i64 0).cells n).toList = List.replicate n (.int .i64 0) := by
    simp [Builtin.zeroCells, Value.cells]
    apply List.ext_getElem
    · simp
    · intro i h1 h2
      simp [Nat.mod_one]
  obtain ⟨w', hrun, r1, r2, r3⟩ := copyk.run_clear_k (P := Tryz.prog) w 22 2 o.type (.int .i64 0) 1 Tryz.underlying22 zeroI (some ⟨g, k, none⟩) n c g k (cellsOf xs) 2 hF (fun _ => rfl) (by rw [hz]; simp) (by rw [hz]; intro v hv; rw [List.eq_of_mem_replicate hv]; rfl) (by simp; omega)
  rw [if_neg (by omega), hz, splice_fill] at r1
  have b0 := r3 (Below.refl 0 w) (Nat.zero_le _)
  unfold Oper.wp
  simp [execOp, ho, resolve, invoke, builtin, hs, hrun, Result.andThen]
  exact h w' r1 ⟨b0.os, b0.tape, b0.output, b0.size, fun j _ hj => r2 j (fun e => hj (by rw [e]))⟩

theorem grown_two {a b c : World} {r : Option Nat} (h : a.grownBy b r) (k : b.grownBy c r) : a.grownBy c r :=
  ⟨k.os.trans h.os, k.tape.trans h.tape, k.output.trans h.output, Nat.le_trans h.size k.size, fun j hj hn => (k.block j (Nat.lt_of_lt_of_le hj h.size) hn).trans (h.block j hj hn)⟩
theorem grown_bel' {w w' : World} (hb : Below w.heap.size w w') (r : Option Nat) : w.grownBy w' r := ⟨hb.os, hb.tape, hb.output, hb.size, fun k hk _ => hb.block k hk⟩
theorem full_grown {w w' : World} {g b : Nat} {xs : List Int} (h : Full w b xs) (hg : w.grownBy w' (some g)) (hne : b ≠ g) : Full w' b xs := (hg.block b (lt_of_block h) (fun e => hne (by injection e))).trans h

theorem full_bel {w w' : World} {b : Nat} {xs : List Int} (h : Full w b xs) (hb : Below w.heap.size w w') : Full w' b xs := (hb.block b (lt_of_block h)).trans h
theorem fc_cells {w : World} {b : Nat} {k n : Int} (h : w.heap[b]? = some (fcb k n)) : w.cell? ⟨b, 0, none⟩ = some (.int .i64 k) ∧ w.cell? ⟨b, 1, none⟩ = some (.int .i64 n) := ⟨by simp [World.cell?, h], by simp [World.cell?, h]⟩
theorem grown_setG {w w' : World} {g : Nat} (h : w.grownBy w' (some g)) (k : Nat) (u : Value) : w.grownBy (w'.setCell ⟨g, k, none⟩ u) (some g) :=
  ⟨h.os, h.tape, h.output, by simpa using h.size, fun k' hk hne => (Below.heap_setCell w' _ u k' (fun e => hne (by simp [e]))).trans (h.block k' hk hne)⟩

set_option maxHeartbeats 2000000 in
theorem putHead_any {w : World} {g len cap k n : Nat} {xs : List Int} (F : Full w g xs) (hx : xs.length = len) (hl : len ≤ 1048576) (h2 : 2 ≤ n) (hkn : k + n ≤ len) :
    Calls Tryz.prog 125 #[fcv k n, .slice (some ⟨g, 0, none⟩) len cap] w fun e w' => e = .returned (.tuple #[]) ∧ Full w' g ((xs.set k (pk 0 6 0 0 false false)).set (k + 1) n) ∧ w.grownBy w' (some g) := by
  subst hx
  have PK := packed_any 0 6 0 0 false false
  rw [show pkd 0 6 0 0 false false = pk 0 6 0 0 false false by decide] at PK
  generalize pk 0 6 0 0 false false = hd at *
  have hg := lt_of_block F
  have F0 : Full (w.alloc (fcb k n)) g xs := (Below.heap_alloc w _ g hg).trans F
  have G0 : w.grownBy (w.alloc (fcb k n)) (some g) := World.grownBy_alloc w _ _
  have B0 : (w.alloc (fcb k n)).heap[w.heap.size]? = some (fcb k n) := heap_alloc_new _ _
  have ne : w.heap.size ≠ g := by omega
  obtain ⟨b0, b1⟩ := fc_cells B0
  have c0 := full_cell F0 (show k < xs.length by omega)
  have q0 := full_frozen F0 k
  have HALL : Hid (∀ w4, w4 = ((w.alloc (fcb k n)).drew.alloc (hb 0 6 0 0 false false)).alloc (hb 0 6 0 0 false false) →
      (w4.cell? ⟨w.heap.size, 0, none⟩ = some (.int .i64 k) ∧ w4.cell? ⟨g, k, none⟩ = some (.int .i64 (xs.getD k 0)) ∧ w4.frozen? ⟨g, k, none⟩ = false) ∧
      ((w4.setCell ⟨g, k, none⟩ (.int .i64 hd)).cell? ⟨w.heap.size, 0, none⟩ = some (.int .i64 k) ∧ (w4.setCell ⟨g, k, none⟩ (.int .i64 hd)).cell? ⟨w.heap.size, 1, none⟩ = some (.int .i64 n) ∧ (w4.setCell ⟨g, k, none⟩ (.int .i64 hd)).cell? ⟨g, k + 1, none⟩ = some (.int .i64 ((xs.set k hd).getD (k + 1) 0)) ∧ (w4.setCell ⟨g, k, none⟩ (.int .i64 hd)).frozen? ⟨g, k + 1, none⟩ = false) ∧
      Full ((w4.setCell ⟨g, k, none⟩ (.int .i64 hd)).setCell ⟨g, k + 1, none⟩ (.int .i64 n)) g ((xs.set k hd).set (k + 1) n) ∧ w.grownBy ((w4.setCell ⟨g, k, none⟩ (.int .i64 hd)).setCell ⟨g, k + 1, none⟩ (.int .i64 n)) (some g)) := by
    rintro w4 hw4
    have b4 : Below (w.alloc (fcb k n)).heap.size (w.alloc (fcb k n)) w4 := by rw [hw4]; exact ((Below.refl (w.alloc (fcb k n)).heap.size (w.alloc (fcb k n))).drew.alloc (by simp [World.drew]) _).alloc (by simp [World.drew]) _
    have F4 := full_bel F0 b4
    have T4 := (b4.block w.heap.size (by simp)).trans B0
    have F5 := full_set F4 k hd
    have T5 := (Below.heap_setCell w4 ⟨g, k, none⟩ (.int .i64 hd) w.heap.size ne).trans T4
    exact ⟨⟨(fc_cells T4).1, full_cell F4 (by omega), full_frozen F4 k⟩, ⟨(fc_cells T5).1, (fc_cells T5).2, full_cell F5 (by simp; omega), full_frozen F5 _⟩, full_set F5 (k + 1) n, grown_setG (grown_setG (grown_two G0 (grown_bel' b4 _)) k _) (k + 1) _⟩
  have hk : k < xs.length := by omega
  have hk1 : k + 1 < xs.length := by omega
  clear F F0 G0 B0
  generalize xs.getD k 0 = z0 at *
  generalize (xs.set k hd).getD (k + 1) 0 = z1 at *
  generalize hR : (xs.set k hd).set (k + 1) (n : Int) = R at *
  clear hR
  go_enter Tryz.func125, Tryz.ntmps125
  go_wp2_with fail
  go_region_law (go_simp; go_at_call 24; refine (PK _).mono ?_; clear PK; rintro e w4 ⟨rfl, hw4⟩; obtain ⟨⟨d0, d1, d2⟩, ⟨d3, d4, d5, d6⟩, d7⟩ := HALL.out w4 hw4; have HD : Hid _ := d7; clear d7 hw4 HALL)
  all_goals go_wp2
  all_goals go_end0
  all_goals exact ⟨rfl, HD.out⟩

set_option maxHeartbeats 2000000 in
theorem putEmpty_any {w : World} {g len cap k n : Nat} {xs : List Int} (F : Full w g xs) (hx : xs.length = len) (hl : len ≤ 1048576) (h2 : 2 ≤ n) (hkn : k + n ≤ len) (hc : len ≤ cap) :
    Calls Tryz.prog 79 #[fcv k n, .slice (some ⟨g, 0, none⟩) len cap] w fun e w' => e = .returned (.tuple #[]) ∧ Full w' g (freeR xs k n) ∧ w.grownBy w' (some g) := by
  subst hx
  have hg := lt_of_block F
  have F0 : Full (w.alloc (fcb k n)) g xs := (Below.heap_alloc w _ g hg).trans F
  have G0 : w.grownBy (w.alloc (fcb k n)) (some g) := World.grownBy_alloc w _ _
  have B0 : (w.alloc (fcb k n)).heap[w.heap.size]? = some (fcb k n) := heap_alloc_new _ _
  have ne : w.heap.size ≠ g := by omega
  obtain ⟨b0, b1⟩ := fc_cells B0
  have EN := end_any k n (by omega)
  have HALL : Hid (∀ w4, w4 = ((w.alloc (fcb k n)).drew.alloc (fcb k n)) → (w4.cell? ⟨w.heap.size, 0, none⟩ = some (.int .i64 k) ∧ w4.cell? ⟨w.heap.size, 1, none⟩ = some (.int .i64 n)) ∧ Full w4 g xs ∧
      ∀ w5, Full w5 g (fill xs k n 0) → w4.grownBy w5 (some g) → (w5.cell? ⟨w.heap.size, 0, none⟩ = some (.int .i64 k) ∧ w5.cell? ⟨w.heap.size, 1, none⟩ = some (.int .i64 n)) ∧ w.grownBy w5 (some g)) := by
    rintro w4 hw4
    have b4 : Below (w.alloc (fcb k n)).heap.size (w.alloc (fcb k n)) w4 := by rw [hw4]; exact (Below.refl (w.alloc (fcb k n)).heap.size (w.alloc (fcb k n))).drew.alloc (by simp [World.drew]) _
    have F4 := full_bel F0 b4
    have T4 := (b4.block w.heap.size (by simp)).trans B0
    refine ⟨fc_cells T4, F4, fun w5 F5 g5 => ⟨fc_cells ((g5.block w.heap.size (lt_of_block T4) (fun e => ne (by injection e))).trans T4), grown_two (grown_two G0 (grown_bel' b4 _)) g5⟩⟩
  have HFR : Hid _ := freeR_set hkn h2
  have hfl : (fill xs k n 0).length = xs.length := fill_length hkn
  have q1 : (0 : Int) ≤ (k : Int) + n := by omega
  have q2 : (k : Int) + n ≤ cap := by omega
  have q3 : ((k : Int) + (n : Int)).toNat = k + n := by omega
  have q4 : ¬ cap = k := by omega
  clear F F0 G0 B0
  go_enter Tryz.func79, Tryz.ntmps79
  go_wp2_with fail
  go_region_law (first
    | (go_simp; go_at_call 124; refine (EN _).mono ?_; clear EN; rintro e w4 ⟨rfl, hw4⟩; obtain ⟨⟨d0, d1⟩, d2, d3⟩ := HALL.out w4 hw4; have HF4 : Hid _ := d2; have HN : Hid _ := d3; clear d2 d3 hw4 HALL)
    | (refine step_clear_ints rfl (.tmp 9) rfl (g := g) (k := k) (n := n) (c := cap - k) (xs := xs) (by first | rfl | (simp [go_sem]; done)) (by omega) HF4.out hkn ?_; intro w5 f5 g5; obtain ⟨⟨m0, m1⟩, m2⟩ := HN.out w5 f5.out g5.out; have HG5 : Hid _ := m2; clear m2 g5 HN HF4))
  all_goals go_wp2_with fail
  all_goals refine (putHead_any f5.out hfl hl h2 hkn).mono ?_
  all_goals rintro e w6 ⟨rfl, F6, G6⟩
  all_goals rw [HFR.out] at F6
  all_goals have HF : Hid _ := F6
  all_goals have HG : Hid _ := grown_two HG5.out G6
  all_goals clear F6 G6 HG5 f5
  all_goals go_wp2
  all_goals go_end0
  all_goals exact ⟨rfl, HF.out, HG.out⟩
end Go.Proofs.YtjdpbdadeeoplaaGreatDoor.walks
namespace Go.Proofs.YtjdpbdadeeoplaaGreatDoor.walks
open Go.RowKit rows heads words
set_option maxRecDepth 100000

set_option maxHeartbeats 4000000 in
theorem l4Free_is {w : World} {base g len cap k n : Nat} {xs : List Int} (hO : w.ownsRow base 2 1 (.slice (some ⟨g, 0, none⟩) len cap) len (cellsOf xs)) (hx : xs.length = len) (hl : len ≤ 1048576) (hg : base ≤ g) (hbw : base ≤ w.heap.size) (h2 : 2 ≤ n) (hkn : k + n ≤ len) :
    Calls Tryz.prog 62 #[.slice (some ⟨g, 0, none⟩) len cap, .int .i64 k, .int .i64 n] w fun e w' => (∃ v', e = .returned v') ∧ w'.ownsRow base 2 1 (.slice (some ⟨g, 0, none⟩) len cap) len (cellsOf (freeR xs k n)) ∧ Below base w w' := by
  have hok6 : hok 0 6 0 0 false false = true := by decide
  go_enter Tryz.func62, Tryz.ntmps62
  go_wp2_with fail
  go_loopw [6] (fun i wr => ∃ j : Nat, j ≤ n ∧ i = .int .i64 (j : Int) ∧ wr.ownsRow base 2 1 (.slice (some ⟨g, 0, none⟩) len cap) len (cellsOf (fill xs k j 0)) ∧ Below base w wr) (fun i _ => n - (intOf i).toNat)
  case atStart => exact ⟨0, by omega, by simp, by rw [fill_zero]; exact hO, Below.refl _ _⟩
  case round =>
    obtain ⟨j, hj, rfl, Or, Br⟩ := hrel
    by_cases hlt : j < n
    · have hlt' : (j : Int) < (n : Int) := by omega
      have c0 := World.ownsRow.cellAt Or (k + j) (by omega)
      have c1 := World.ownsRow.frozenAt Or (k + j)
      have S := (World.ownsRow.stored Or (k + j) (.int .i64 0)).1
      have e1 : (cellsOf (fill xs k j 0)).set (k + j) (.int .i64 0) = cellsOf (fill xs k (j + 1) 0) := by
        rw [← fill_set (by omega)]; simp [cellsOf, List.map_set]
      rw [e1] at S
      have HO : Hid _ := S
      have HB : Hid _ := Br.setCell (p := ⟨g, k + j, none⟩) hg (.int .i64 0)
      obtain ⟨y, hy'⟩ : ∃ y, (cellsOf (fill xs k j 0))[k + j]? = some y := ⟨_, List.getElem?_eq_getElem (by simp [fill_length (show k + j ≤ xs.length by omega)]; omega)⟩
      rw [hy'] at c0
      clear Or Br S e1 hy' hO
      go_wp2
      exact ⟨⟨j + 1, by omega, by go_num, HO, HB⟩, by simp [intOf]; omega⟩
    · have e : j = n := by omega
      subst e
      have hlt' : ¬ (j : Int) < (j : Int) := by omega
      have HO : Hid _ := Or
      have HB : Hid _ := Br
      have HFR : Hid (((fill xs k j 0).set k (pk 0 6 0 0 false false)).set (k + 1) (j : Int) = freeR xs k j) := freeR_set (by omega) h2
      clear Or Br hO
      go_wp2_with fail
      refine (l2Packed_ok 0 6 0 0 false false wr hok6).mono ?_
      rintro e w2 ⟨rfl, hw2⟩
      have O2 : w2.ownsRow base 2 1 (.slice (some ⟨g, 0, none⟩) len cap) len (cellsOf (fill xs k j 0)) := by rw [hw2]; exact World.ownsRow.alloc HO.out _
      have B2 : Below base w w2 := by rw [hw2]; exact HB.out.alloc (Nat.le_trans hbw HB.out.size) _
      clear hw2 HO HB
      have hfl : (fill xs k j 0).length = len := by rw [fill_length (by omega)]; exact hx
      have c0 := World.ownsRow.cellAt O2 k (by omega)
      have c1 := World.ownsRow.frozenAt O2 k
      have S := (World.ownsRow.stored O2 k (.int .i64 (pk 0 6 0 0 false false))).1
      have d0 := World.ownsRow.cellAt S (k + 1) (by omega)
      have d1 := World.ownsRow.frozenAt S (k + 1)
      have S2 := (World.ownsRow.stored S (k + 1) (.int .i64 (j : Int))).1
      have e1 : ((cellsOf (fill xs k j 0)).set k (.int .i64 (pk 0 6 0 0 false false))).set (k + 1) (.int .i64 (j : Int)) = cellsOf (freeR xs k j) := by rw [← HFR.out]; simp [cellsOf, List.map_set]
      rw [e1] at S2
      have HO : Hid _ := S2
      have HB : Hid _ := (B2.setCell (p := ⟨g, k, none⟩) hg (.int .i64 (pk 0 6 0 0 false false))).setCell (p := ⟨g, k + 1, none⟩) hg (.int .i64 (j : Int))
      obtain ⟨y, hy'⟩ : ∃ y, (cellsOf (fill xs k j 0))[k]? = some y := ⟨_, List.getElem?_eq_getElem (by simp [hfl]; omega)⟩
      rw [hy'] at c0
      obtain ⟨y2, hy2⟩ : ∃ y, ((cellsOf (fill xs k j 0)).set k (.int .i64 (pk 0 6 0 0 false false)))[k + 1]? = some y := ⟨_, List.getElem?_eq_getElem (by simp [hfl]; omega)⟩
      rw [hy2] at d0
      clear O2 B2 S S2 e1 hy' hy2 hlt' hlt HFR
      go_wp2
      go_end0
      exact ⟨⟨_, rfl⟩, HO.out, HB.out⟩

end Go.Proofs.YtjdpbdadeeoplaaGreatDoor.walks
namespace Go.Proofs.YtjdpbdadeeoplaaGreatDoor.hp
open Go.RowKit rows heads words walks
set_option maxRecDepth 100000
set_option linter.unusedVariables false
set_option linter.unusedSimpArgs false

/-- An even number within bounds. -/
def evn (lo hi x : Int) : Bool := inR lo hi x && decide (x % 2 = 0)
/-- Are these the sizes and the seed of a heap? -/
def nOk (x y z : Int) : Bool := evn 8 200 x && evn 8 400 y && inR 0 65535 z
def hp0 : Hp := ⟨0, 0, [], 0, 0, [], [], [], 0⟩
/-- A new heap. -/
def hNew (x y z : Int) : Hp × Bool := if nOk x y z = true then (⟨x, y, freeR (List.replicate (2 * x + y).toNat 0) (2 * x).toNat y.toNat, 0, 0, List.replicate 6 2, [], [], z⟩, true) else (hp0, false)
theorem inR_true {lo hi x : Int} (h : inR lo hi x = true) : lo ≤ x ∧ x ≤ hi := by simpa [inR] using h
theorem inR_false {lo hi x : Int} (h : inR lo hi x = false) : ¬ (lo ≤ x ∧ x ≤ hi) := by simpa [inR] using h
theorem evn_true {lo hi x : Int} (h : evn lo hi x = true) : lo ≤ x ∧ x ≤ hi ∧ x % 2 = 0 := by
  simp only [evn, Bool.and_eq_true, decide_eq_true_eq] at h
  exact ⟨(inR_true h.1).1, (inR_true h.1).2, h.2⟩
theorem fill_zeros {L k n : Nat} (h : k + n ≤ L) : fill (List.replicate L (0 : Int)) k n 0 = List.replicate L 0 := by
  apply List.ext_getElem?
  intro i
  simp only [fill, List.getElem?_append, List.length_take, List.getElem?_take, List.getElem?_replicate, List.length_append, List.length_replicate, List.getElem?_drop, List.length_drop]
  grind
theorem hR_NewH (x y z : Int) : hpSize (hNew x y z).1 ≤ 1048576 := by
  unfold hNew
  split
  · rename_i h
    simp only [nOk, Bool.and_eq_true] at h
    have e1 := evn_true h.1.1
    have e2 := evn_true h.1.2
    unfold hpSize
    rw [freeR_length (by simp; omega) (by omega)]
    simp
    omega
  · decide

set_option maxHeartbeats 4000000 in
theorem l4Free_at {w : World} {base g len cap k n : Nat} {xs : List Int} (hO : w.ownsRow base 2 1 (.slice (some ⟨g, 0, none⟩) len cap) len (cellsOf xs)) (hx : xs.length = len) (hl : len ≤ 1048576) (h2 : 2 ≤ n) (hkn : k + n ≤ len) :
    Calls Tryz.prog 62 #[.slice (some ⟨g, 0, none⟩) len cap, .int .i64 k, .int .i64 n] w fun e w' => (∃ v', e = .returned v') ∧ w'.ownsRow base 2 1 (.slice (some ⟨g, 0, none⟩) len cap) len (cellsOf (freeR xs k n)) ∧ w.grownBy w' (some g) := by
  have hok6 : hok 0 6 0 0 false false = true := by decide
  go_enter Tryz.func62, Tryz.ntmps62
  go_wp2_with fail
  go_loopw [6] (fun i wr => ∃ j : Nat, j ≤ n ∧ i = .int .i64 (j : Int) ∧ wr.ownsRow base 2 1 (.slice (some ⟨g, 0, none⟩) len cap) len (cellsOf (fill xs k j 0)) ∧ w.grownBy wr (some g)) (fun i _ => n - (intOf i).toNat)
  case atStart => exact ⟨0, by omega, by simp, by rw [fill_zero]; exact hO, grown_bel' (Below.refl _ _) _⟩
  case round =>
    obtain ⟨j, hj, rfl, Or, Br⟩ := hrel
    by_cases hlt : j < n
    · have hlt' : (j : Int) < (n : Int) := by omega
      have c0 := World.ownsRow.cellAt Or (k + j) (by omega)
      have c1 := World.ownsRow.frozenAt Or (k + j)
      have S := (World.ownsRow.stored Or (k + j) (.int .i64 0)).1
      have e1 : (cellsOf (fill xs k j 0)).set (k + j) (.int .i64 0) = cellsOf (fill xs k (j + 1) 0) := by
        rw [← fill_set (by omega)]; simp [cellsOf, List.map_set]
      rw [e1] at S
      have HO : Hid _ := S
      have HB : Hid _ := grown_setG Br (k + j) (.int .i64 0)
      obtain ⟨y, hy'⟩ : ∃ y, (cellsOf (fill xs k j 0))[k + j]? = some y := ⟨_, List.getElem?_eq_getElem (by simp [fill_length (show k + j ≤ xs.length by omega)]; omega)⟩
      rw [hy'] at c0
      clear Or Br S e1 hy' hO
      go_wp2
      exact ⟨⟨j + 1, by omega, by go_num, HO, HB⟩, by simp [intOf]; omega⟩
    · have e : j = n := by omega
      subst e
      have hlt' : ¬ (j : Int) < (j : Int) := by omega
      have HO : Hid _ := Or
      have HB : Hid _ := Br
      have HFR : Hid (((fill xs k j 0).set k (pk 0 6 0 0 false false)).set (k + 1) (j : Int) = freeR xs k j) := freeR_set (by omega) h2
      clear Or Br hO
      go_wp2_with fail
      refine (l2Packed_ok 0 6 0 0 false false wr hok6).mono ?_
      rintro e w2 ⟨rfl, hw2⟩
      have O2 : w2.ownsRow base 2 1 (.slice (some ⟨g, 0, none⟩) len cap) len (cellsOf (fill xs k j 0)) := by rw [hw2]; exact World.ownsRow.alloc HO.out _
      have B2 : w.grownBy w2 (some g) := by rw [hw2]; exact grown_two HB.out (World.grownBy_alloc _ _ _)
      clear hw2 HO HB
      have hfl : (fill xs k j 0).length = len := by rw [fill_length (by omega)]; exact hx
      have c0 := World.ownsRow.cellAt O2 k (by omega)
      have c1 := World.ownsRow.frozenAt O2 k
      have S := (World.ownsRow.stored O2 k (.int .i64 (pk 0 6 0 0 false false))).1
      have d0 := World.ownsRow.cellAt S (k + 1) (by omega)
      have d1 := World.ownsRow.frozenAt S (k + 1)
      have S2 := (World.ownsRow.stored S (k + 1) (.int .i64 (j : Int))).1
      have e1 : ((cellsOf (fill xs k j 0)).set k (.int .i64 (pk 0 6 0 0 false false))).set (k + 1) (.int .i64 (j : Int)) = cellsOf (freeR xs k j) := by rw [← HFR.out]; simp [cellsOf, List.map_set]
      rw [e1] at S2
      have HO : Hid _ := S2
      have HB : Hid _ := grown_setG (grown_setG B2 k (.int .i64 (pk 0 6 0 0 false false))) (k + 1) (.int .i64 (j : Int))
      obtain ⟨y, hy'⟩ : ∃ y, (cellsOf (fill xs k j 0))[k]? = some y := ⟨_, List.getElem?_eq_getElem (by simp [hfl]; omega)⟩
      rw [hy'] at c0
      obtain ⟨y2, hy2⟩ : ∃ y, ((cellsOf (fill xs k j 0)).set k (.int .i64 (pk 0 6 0 0 false false)))[k + 1]? = some y := ⟨_, List.getElem?_eq_getElem (by simp [hfl]; omega)⟩
      rw [hy2] at d0
      clear O2 B2 S S2 e1 hy' hy2 hlt' hlt HFR
      go_wp2
      go_end0
      exact ⟨⟨_, rfl⟩, HO.out, HB.out⟩

theorem ownH_zero (w : World) (base : Nat) : OwnH w base (.slice none 0 0) (.slice none 0 0) (.slice none 0 0) (.slice none 0 0) hp0 := ⟨⟨World.ownsRow_nil _ _ _ _, World.ownsRow_nil _ _ _ _, World.ownsRow_nil _ _ _ _, World.ownsRow_nil _ _ _ _⟩, by decide⟩

end Go.Proofs.YtjdpbdadeeoplaaGreatDoor.hp
namespace Go.Proofs.YtjdpbdadeeoplaaGreatDoor.hp
open Go.RowKit rows heads words walks
set_option maxRecDepth 100000
set_option linter.unusedVariables false
set_option linter.unusedSimpArgs false

/-- The new heap, where its numbers are right. -/
def hMade (X Y : Nat) (z : Int) : Hp := ⟨X, Y, freeR (List.replicate (2 * X + Y) 0) (2 * X) Y, 0, 0, List.replicate 6 2, [], [], z⟩
/-- The heap that is made, between two roots: its block, its rows, the block of the answer. -/
def NewAt (n0 : Nat) (w wr : World) (q P L X Y : Nat) (z : Int) (v : Value) (k : Nat) (row : List Int) : Prop :=
  Nine wr P 26 (.int .i64 (X : Int)) (.int .i64 (Y : Int)) (.slice (some ⟨q, 0, none⟩) L L) (.int .i64 0) (.int .i64 0) v (.slice none 0 0) (.slice none 0 0) (.int .i64 z) ∧ rows.Own wr (P + 1) v (List.replicate k 2) ∧ Full wr q row ∧ Nine wr n0 26 (.int .i64 0) (.int .i64 0) (.slice none 0 0) (.int .i64 0) (.int .i64 0) (.slice none 0 0) (.slice none 0 0) (.slice none 0 0) (.int .i64 0) ∧ Below n0 w wr ∧ P + 1 ≤ wr.heap.size
theorem newAt_ch {S : List Nat} {n0 : Nat} {w wr wz : World} {q P L X Y : Nat} {z : Int} {v : Value} {k : Nat} {row : List Int} (h : NewAt n0 w wr q P L X Y z v k row) (hc : Ch S wr wz) (h1 : P ∉ S) (h2 : ∀ b ∈ blk v, b ∉ S) (h3 : q ∉ S) (h4 : n0 ∉ S) (h5 : ∀ b ∈ S, n0 ≤ b) (hn : n0 ≤ wr.heap.size) : NewAt n0 w wz q P L X Y z v k row :=
  ⟨nine_ch h.1 hc h1, row_ch h.2.1 hc h2, full_ch h.2.2.1 hc h3, nine_ch h.2.2.2.1 hc h4, h.2.2.2.2.1.trans (below_ch hc hn h5), Nat.le_trans h.2.2.2.2.2 hc.size⟩
/-- One root more. -/
theorem newAt_app {n0 : Nat} {w wr w' : World} {q P L X Y : Nat} {z : Int} {v v' : Value} {k : Nat} {row : List Int} (h : NewAt n0 w wr q P L X Y z v k row) (h0 : n0 < q) (h1 : q < P)
    (ho : w'.ownsRow (P + 1) 2 1 v' (k + 1) (cellsOf (List.replicate k 2) ++ [.int .i64 2])) (hg : (wr.alloc (.cells #[.int .i64 2] 2)).grownBy w' v.ownBlock) :
    w'.cell? ⟨P, 5, none⟩ = some v ∧ w'.frozen? ⟨P, 5, none⟩ = false ∧ NewAt n0 w (w'.setCell ⟨P, 5, none⟩ v') q P L X Y z v' (k + 1) row := by
  have C0 : Ch (blk v) wr (wr.alloc (.cells #[.int .i64 2] 2)) := ch_below ((Below.refl _ _).alloc (Nat.le_refl _) _)
  have C1 := C0.trans (ch_grown hg)
  have lt := blk_lt h.2.1
  have hb : ∀ b, b ≤ P → b ∉ blk v := fun b hb e => by have := (lt b e).1; omega
  have T1 := nine_ch h.1 C1 (hb P (Nat.le_refl _))
  have F1 := full_ch h.2.2.1 C1 (hb q (by omega))
  have Z1 := nine_ch h.2.2.2.1 C1 (hb n0 (by omega))
  have hn : n0 ≤ wr.heap.size := by have := h.2.2.2.2.2; omega
  have B1 := h.2.2.2.2.1.trans (below_ch C1 hn (fun b e => by have := (lt b e).1; omega))
  obtain ⟨⟨_, _, _, _, _⟩, ⟨k5, _, _, _⟩, kf⟩ := nine_cells T1
  have C2 := one_ch w' P 5 v'
  have e : cellsOf (List.replicate k 2) ++ [.int .i64 2] = cellsOf (List.replicate (k + 1) 2) := by simp [cellsOf, List.replicate_succ']
  rw [e] at ho
  have lt' := blk_lt ho
  refine ⟨k5, kf 5, nine_set5 T1 v', ?_, full_ch F1 C2 (by simp; omega), nine_ch Z1 C2 (by simp; omega), B1.setCell (p := ⟨P, 5, none⟩) (show n0 ≤ P by omega) _, ?_⟩
  · have O := row_ch ho C2 (fun b hb e => by have := (lt' b hb).1; simp at e; omega)
    exact own_row O (by simp)
  · have := C1.size
    have := h.2.2.2.2.2
    simp
    omega
/-- The answer. -/
theorem newAt_end {n0 : Nat} {w wr : World} {q P L X Y : Nat} {z : Int} {v : Value} (h : NewAt n0 w wr q P L X Y z v 6 (freeR (List.replicate L 0) (2 * X) Y)) (h0 : n0 < q) (h1 : q < P) (hL : 2 * X + Y = L) (hm : L ≤ 1048576) (hY : 2 ≤ Y) :
    ∃ Wz, Wz = (((((((((wr.setCell ⟨n0, 0, none⟩ (.int .i64 (X : Int))).setCell ⟨n0, 1, none⟩ (.int .i64 (Y : Int))).setCell ⟨n0, 2, none⟩ (.slice (some ⟨q, 0, none⟩) L L)).setCell ⟨n0, 3, none⟩ (.int .i64 0)).setCell ⟨n0, 4, none⟩ (.int .i64 0)).setCell ⟨n0, 5, none⟩ v).setCell ⟨n0, 6, none⟩ (.slice none 0 0)).setCell ⟨n0, 7, none⟩ (.slice none 0 0)).setCell ⟨n0, 8, none⟩ (.int .i64 z)) ∧ Nine Wz n0 26 (.int .i64 (X : Int)) (.int .i64 (Y : Int)) (.slice (some ⟨q, 0, none⟩) L L) (.int .i64 0) (.int .i64 0) v (.slice none 0 0) (.slice none 0 0) (.int .i64 z) ∧ OwnH Wz n0 (.slice (some ⟨q, 0, none⟩) L L) v (.slice none 0 0) (.slice none 0 0) (hMade X Y z) ∧ Below n0 w Wz := by
  obtain ⟨h1', h2', h3', h4', h5', h6'⟩ := h
  have C := nine_other (X := wr) (b := n0) (.int .i64 (X : Int)) (.int .i64 (Y : Int)) (.slice (some ⟨q, 0, none⟩) L L) (.int .i64 0) (.int .i64 0) v (.slice none 0 0) (.slice none 0 0) (.int .i64 z)
  have lt := blk_lt h2'
  have O2 := row_ch h2' C (fun b hb e => by have := (lt b hb).1; simp at e; omega)
  have F2 := full_ch h3' C (by simp; omega)
  have hfl : (freeR (List.replicate L (0 : Int)) (2 * X) Y).length = L := by rw [freeR_length (by simp; omega) hY]; simp
  refine ⟨_, rfl, nine_sets h4' _ _ _ _ _ _ _ _ _, ⟨⟨?_, ?_, World.ownsRow_nil _ _ _ _, World.ownsRow_nil _ _ _ _⟩, ?_⟩, nine_belows h5' (Nat.le_refl _) _ _ _ _ _ _ _ _ _⟩
  · show rows.Own _ n0 _ (freeR (List.replicate (2 * X + Y) 0) (2 * X) Y)
    rw [hL]
    have := full_own (base := n0) F2 (by omega) (by unfold maxLen; omega)
    rwa [hfl] at this
  · exact own_base O2 (by omega)
  · have e : hblk (.slice (some ⟨q, 0, none⟩) L L) v (.slice none 0 0) (.slice none 0 0) = [q] ++ blk v := by simp [hblk, blk, Value.ownBlock]
    rw [e, List.nodup_append]
    refine ⟨by simp, ?_, fun a ha b hb => ?_⟩
    · unfold blk; cases v.ownBlock <;> simp
    · rw [List.mem_singleton] at ha; have := (lt b hb).1; omega

end Go.Proofs.YtjdpbdadeeoplaaGreatDoor.hp
namespace Go.Proofs.YtjdpbdadeeoplaaGreatDoor.hp
open Go.RowKit rows heads words walks
set_option maxRecDepth 100000
set_option linter.unusedVariables false
set_option linter.unusedSimpArgs false

set_option maxHeartbeats 2000000 in
theorem evenWithin_any (x lo hi : Int) (hlo : 0 ≤ lo) (w : World) :
    Calls Tryz.prog 180 #[.int .i64 x, .int .i64 lo, .int .i64 hi] w fun e w' => e = .returned (.bool (evn lo hi x)) ∧ w' = w := by
  by_cases h1 : lo ≤ x
  · by_cases h2 : x ≤ hi
    · by_cases h3 : x % 2 = 0
      · have e : evn lo hi x = true := by simp [evn, inR, h1, h2, h3]
        rw [e]
        have m1 : (x.tmod 2 == 0) = true := by rw [Int.tmod_eq_emod_of_nonneg (by omega), h3]; rfl
        have m2 : (x % 2 == 0) = true := by rw [h3]; rfl
        clear e h3
        go_enter Tryz.func180, Tryz.ntmps180
        go_wp2
        go_ret
        exact ⟨rfl, rfl⟩
      · have h3' : x % 2 = 1 := by omega
        have e : evn lo hi x = false := by simp [evn, inR, h1, h2, h3']
        rw [e]
        have m1 : (x.tmod 2 == 0) = false := by rw [Int.tmod_eq_emod_of_nonneg (by omega), h3']; rfl
        have m2 : (x % 2 == 0) = false := by rw [h3']; rfl
        clear e h3 h3'
        go_enter Tryz.func180, Tryz.ntmps180
        go_wp2
        go_ret
        exact ⟨rfl, rfl⟩
    · have e : evn lo hi x = false := by simp [evn, inR, h2]
      rw [e]
      clear e
      go_enter Tryz.func180, Tryz.ntmps180
      go_wp2
      go_ret
      exact ⟨rfl, rfl⟩
  · have e : evn lo hi x = false := by simp [evn, inR, h1]
    rw [e]
    clear e
    go_enter Tryz.func180, Tryz.ntmps180
    go_wp2
    go_ret
    exact ⟨rfl, rfl⟩
theorem sizesOk_any (x y : Int) (w : World) :
    Calls Tryz.prog 150 #[.int .i64 x, .int .i64 y] w fun e w' => e = .returned (.bool (evn 8 200 x && evn 8 400 y)) ∧ w' = w := by
  have E1 := evenWithin_any x 8 200 (by decide)
  have E2 := evenWithin_any y 8 400 (by decide)
  cases d : evn 8 200 x
  · rw [d] at E1
    go_enter Tryz.func150, Tryz.ntmps150
    go_wp2_with (go_at_call 180; refine (E1 _).mono ?_; clear E1; rintro e w3 ⟨rfl, hw3⟩; rw [hw3]; clear hw3 w3)
    go_ret
    exact ⟨rfl, rfl⟩
  · rw [d] at E1
    go_enter Tryz.func150, Tryz.ntmps150
    go_wp2_with (first
      | (have hh := E1; clear hh; go_at_call 180; refine (E1 _).mono ?_; clear E1; rintro e w3 ⟨rfl, hw3⟩; rw [hw3]; clear hw3 w3)
      | (have hh := E2; clear hh; go_at_call 180; refine (E2 _).mono ?_; clear E2; rintro e w3 ⟨rfl, hw3⟩; rw [hw3]; clear hw3 w3))
    go_ret
    exact ⟨rfl, rfl⟩
theorem rowLength_any (X Y L : Nat) (hL : 2 * X + Y = L) (hm : L ≤ 1048576) (w : World) :
    Calls Tryz.prog 81 #[.int .i64 (X : Int), .int .i64 (Y : Int)] w fun e w' => e = .returned (.int .i64 (L : Int)) ∧ w' = w := by
  have b1 : X ≤ 1048576 := by omega
  have b2 : Y ≤ 1048576 := by omega
  have HL : Hid _ := hL
  clear hL
  go_enter Tryz.func81, Tryz.ntmps81
  go_wp2
  go_ret
  exact ⟨by rw [← HL.out]; go_num, rfl⟩
/-- A row of six, its first k words 2. -/
def six (k : Nat) : List Value := List.replicate k (.int .i64 2) ++ List.replicate (6 - k) (.int .i64 0)
theorem infoS : (Tryz.prog.info? 2).map (·.size) = some 1 := by kernel_rfl
theorem six_splice {k n : Nat} (h : k + n ≤ 6) : splice (six k) k (List.replicate n (.int .i64 2)) = six (k + n) := by
  apply List.ext_getElem?
  intro i
  simp only [splice, six, List.getElem?_append, List.length_take, List.getElem?_take, List.getElem?_replicate, List.length_append, List.length_replicate, List.getElem?_drop, List.length_drop]
  grind
theorem six_cells {W : World} {g k : Nat} (h : W.heap[g]? = some (.cells (six k).toArray 2 (0, 0))) (n : Nat) (hn : n ≤ k) (hk : k ≤ 6) :
    ∀ j v, (List.replicate n (Value.int .i64 2))[j]? = some v → W.cell? ((⟨g, 0, none⟩ : Addr).add j) = some v := by
  intro j v hj
  rw [List.getElem?_replicate] at hj
  split at hj
  · have e : (six k)[j]? = some (.int .i64 2) := by
      unfold six
      rw [List.getElem?_append_left (by simp; omega), List.getElem?_replicate, if_pos (by omega)]
    have e2 : (⟨g, 0, none⟩ : Addr).add j = ⟨g, j, none⟩ := by cases j <;> simp [Addr.add]
    rw [e2]
    simp [World.cell?, h, e]
    exact Option.some.inj hj
  · cases hj
theorem six_ones (n : Nat) : ∀ v ∈ List.replicate n (Value.int .i64 2), v.oneCell' = true := fun v hv => by rw [List.eq_of_mem_replicate hv]; rfl
theorem six_len (k : Nat) (hk : k ≤ 6) : (six k).length = 6 := by simp [six]; omega

end Go.Proofs.YtjdpbdadeeoplaaGreatDoor.hp
