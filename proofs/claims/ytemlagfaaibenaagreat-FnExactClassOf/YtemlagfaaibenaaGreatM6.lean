/-
  Chapter 4 as the specification has it: an object written into a row. Chapter 4 as the specification has it: PutObject. What the program's ObjectAt answers where there is no object; the words of a chunk. Chapter 8 as the program has it: a free chunk written into a row. Chapter 8 as the specification has it: a free chunk written, what is freed. The places that the program's chunks hands out, as a list; a walk told by them. Chapter 8 as the specification has it: the places of free chunks. What may change while a drawn region with a store is run: nothing of what there was but one block, which once it is as wanted stays so.
-/
import Derived.Test.YtemlagfaaibenaaGreatM5
import Derived.Test.YtemlagfaaibenaaGreatM3
import Derived.Test.YtemlagfaaibenaaGreatM1
import Derived.Test.YtemlagfaaibenaaGreatWalkIChunk
import Derived.Test.YtemlagfaaibenaaGreatM2
import Derived.Test.YtemlagfaaibenaaGreatM4
import Derived.Test.YtemlagfaaibenaaGreatPack
import Derived.Deep.RegionLaw
import Derived.Maps.AppendAt
namespace Go.Proofs.YtemlagfaaibenaaGreat.walks
open Go.RowKit rows heads words
set_option maxRecDepth 100000

theorem grown_set {w w' : World} {g : Nat} (h : w.grownBy w' (some g)) (k : Nat) (u : Value) : w.grownBy (w'.setCell ⟨g, k, none⟩ u) (some g) :=
  ⟨h.os, h.tape, h.output, by simpa using h.size, fun k' hk hne => (Below.heap_setCell w' _ u k' (fun e => hne (by simp [e]))).trans (h.block k' hk hne)⟩
theorem grown_alloc {w w' : World} {r : Option Nat} (h : w.grownBy w' r) (o : Obj) : w.grownBy (w'.alloc o) r :=
  ⟨h.os, h.tape, h.output, by have := h.size; simp; omega, fun k hk hne => (Below.heap_alloc w' o k (Nat.lt_of_lt_of_le hk h.size)).trans (h.block k hk hne)⟩

end Go.Proofs.YtemlagfaaibenaaGreat.walks
namespace Go.Proofs.YtemlagfaaibenaaGreat.walks
open Go.RowKit rows heads words
set_option maxRecDepth 100000

theorem own_nothing2 {w : World} {base g : Nat} (hg : g = w.heap.size) (hb : base ≤ g) : rows.Own (w.alloc (.cells #[] 2)) base (.slice (some ⟨g, 0, none⟩) 0 0) [] := by
  subst hg; exact own_nothing w base hb
theorem all_not {ys : List Int} {q : Nat} (hq : q < ys.length) (h : isW (ys.getD q 0) = false) : ys.all isW = false := by
  rw [List.all_eq_false]
  refine ⟨ys.getD q 0, ?_, by rw [h]; simp⟩
  rw [List.getD_eq_getElem?_getD, List.getElem?_eq_getElem hq]
  exact List.getElem_mem hq
theorem all_yes {ys : List Int} (h : ∀ q, q < ys.length → isW (ys.getD q 0) = true) : ys.all isW = true := by
  rw [List.all_eq_true]
  intro x hx
  obtain ⟨q, hq, rfl⟩ := List.mem_iff_getElem.1 hx
  have := h q hq
  rwa [List.getD_eq_getElem?_getD, List.getElem?_eq_getElem hq] at this

theorem putOk_false {xs ys : List Int} {i s f c g : Int} {p m : Bool} (h : ¬ (hok s f c g p m = true ∧ f ≤ 2 ∧ m = false ∧ (ys.length : Int) = s ∧ atOk xs i = true ∧ i + sz s ≤ xs.length ∧ ys.all isW = true)) : putOk xs i s f c g p m ys = false := by
  cases e : putOk xs i s f c g p m ys
  · rfl
  · refine absurd ?_ h
    simp only [putOk, Bool.and_eq_true, decide_eq_true_eq, Bool.not_eq_true'] at e
    obtain ⟨⟨_, ⟨⟨⟨⟨e1, e2⟩, e3⟩, e4⟩, e5⟩, e6⟩, e7⟩ := e
    exact ⟨e1, e2, e3, e4, e5, e6, e7⟩
theorem putOk_true {xs ys : List Int} {i s f c g : Int} {p m : Bool} (d : rowOk xs = true) (h : hok s f c g p m = true ∧ f ≤ 2 ∧ m = false ∧ (ys.length : Int) = s ∧ atOk xs i = true ∧ i + sz s ≤ xs.length ∧ ys.all isW = true) : putOk xs i s f c g p m ys = true := by
  obtain ⟨e1, e2, e3, e4, e5, e6, e7⟩ := h
  unfold putOk
  rw [d, e1, e3, e5, e7, decide_eq_true e2, decide_eq_true e4, decide_eq_true e6]
  rfl

end Go.Proofs.YtemlagfaaibenaaGreat.walks
namespace Go.Proofs.YtemlagfaaibenaaGreat.walks
open Go.RowKit rows heads words
set_option maxRecDepth 100000

theorem isFree_any (s f c h : Int) (p m : Bool) (u : Value) (w : World) :
    Calls Tryz.prog 108 #[cv s f c h p m u] w fun e w' => e = .returned (.bool (f == 6)) ∧ w' = w.alloc (cb s f c h p m u) := by
  go_enter Tryz.func108, Tryz.ntmps108
  go_wp2
  go_ret
  exact ⟨rfl, rfl⟩

theorem slots_any (s f c h : Int) (p m : Bool) (b o N n : Nat) (w : World) (hN : N ≤ 1048576) (hn : (if f = 7 then 1 else s) = (n : Int)) (hle : 1 + n ≤ N) :
    Calls Tryz.prog 63 #[cv s f c h p m (.slice (some ⟨b, o, none⟩) N N)] w fun e w' => e = .returned (piece (some ⟨b, o, none⟩) 1 n) ∧ Below w.heap.size w w' := by
  have B0 : Below w.heap.size w ((w.alloc (cb s f c h p m (.slice (some ⟨b, o, none⟩) N N))).alloc (cb s f c h p m (.slice (some ⟨b, o, none⟩) N N))) := ((Below.refl _ w).alloc (Nat.le_refl _) _).alloc (by simp) _
  have HB : Hid _ := B0
  clear B0
  by_cases h7 : f = 7
  · subst h7
    have e1 : n = 1 := by simp at hn; omega
    subst e1
    go_enter Tryz.func63, Tryz.ntmps63
    go_wp2_with (go_at_call 62; refine (isNote_any _ _ _ _ _ _ _ _).mono ?_; rintro e w1 ⟨rfl, rfl⟩)
    all_goals go_ret
    all_goals exact ⟨by simp [piece, Addr.add], HB⟩
  · have h7' : (f == 7) = false := by simpa using h7
    rw [if_neg h7] at hn
    subst hn
    go_enter Tryz.func63, Tryz.ntmps63
    go_wp2_with (go_at_call 62; refine (isNote_any _ _ _ _ _ _ _ _).mono ?_; rintro e w1 ⟨rfl, rfl⟩)
    · have e0 : n = 0 := by omega
      subst e0
      go_ret
      exact ⟨by simp [piece], HB⟩
    · go_ret
      exact ⟨by simp [piece, Addr.add, *], HB⟩

/-- A piece holds its numbers. -/
theorem piece_is {w : World} {a : Option Addr} {cap : Nat} {xs : List Int} (h : IntsAt w (.slice a xs.length cap) xs) (hl : xs.length ≤ 1048576) (k n : Nat) (hk : k + n ≤ xs.length) : IntsAt w (piece a k n) ((xs.drop k).take n) := by
  obtain ⟨a', cap', e, hlc, hcm, hnil, hc⟩ := h
  injection e with e1 e2 e3
  subst e1 e3
  have el : ((xs.drop k).take n).length = n := by simp; omega
  by_cases h0 : n = 0
  · subst h0
    rw [piece_none]
    exact ⟨a, 0, by simp, by simp, by decide, fun _ => rfl, fun h => by simp at h⟩
  · obtain ⟨b, off, rfl, hb, hcc⟩ := hc (by omega)
    rw [piece_at b off k n (by omega)]
    refine ⟨_, n, by rw [el], by omega, by unfold maxLen; omega, fun h => by simp at h, fun _ => ⟨b, off + k, rfl, hb, fun i hi => ?_⟩⟩
    rw [el] at hi
    have := hcc (k + i) (by omega)
    rw [Nat.add_assoc, this]
    simp [List.getD_eq_getElem?_getD, hi]

theorem chAt_drew {w : World} {b : Nat} {s f c h : Int} {p m : Bool} {u : Value} (hh : ChAt w b s f c h p m u) : ChAt w.drew b s f c h p m u := hh

end Go.Proofs.YtemlagfaaibenaaGreat.walks
namespace Go.Proofs.YtemlagfaaibenaaGreat.walks
open Go.RowKit rows heads words
set_option maxRecDepth 100000

abbrev fcv (k n : Int) : Value := .agg #[.int .i64 k, .int .i64 n]
abbrev fcb (k n : Int) : Obj := .cells #[.int .i64 k, .int .i64 n] 95

theorem end_any (k n : Nat) (h : k + n ≤ 1048576) (w : World) :
    Calls Tryz.prog 145 #[fcv k n] w fun e w' => e = .returned (.int .i64 ((k + n : Nat) : Int)) ∧ w' = w.alloc (fcb k n) := by
  go_enter Tryz.func145, Tryz.ntmps145
  go_wp2
  go_ret
  exact ⟨by go_num, rfl⟩

theorem zeroI : ∀ w, (zeroValue 2).run Tryz.prog w = .ok (.int .i64 0) w := fun w => by go_simp
theorem splice_fill {xs : List Int} {k n : Nat} : splice (cellsOf xs) k (List.replicate n (.int .i64 0)) = cellsOf (fill xs k n 0) := by
  simp [splice, cellsOf, fill, List.map_take, List.map_drop]
/-- 'clear' on a piece of a block of numbers, within a region that draws its order. -/
theorem step_clear_ints {w : World} {ops : Array Oper} {o : Oper} {a : Act} {K : Act → World → Prop} {Q : Exit → Act → World → Prop} {E : Prop} (hgd : o.guard = none) (s : Operand)
    (ho : o.op = .call { callee := .builtin .clear, args := #[s], argTypes := #[22] }) {g k n c : Nat} {xs : List Int} (hs : a.eval s = .slice (some ⟨g, k, none⟩) n c) (hn : 0 < n) (hF : Full w g xs) (hfit : k + n ≤ xs.length)
    (h : ∀ w', Hid (Full w' g (fill xs k n 0)) → Hid (w.grownBy w' (some g)) → K (a.put o.dst (.tuple #[])) w') :
    if Region.wanted o (yielded ops a.tmps) = true then Oper.wp Tryz.prog o a w K Q else E := by
  have hw : Region.wanted o (yielded ops a.tmps) = true := by simp [Region.wanted, hgd]
  rw [if_pos hw]
  have hz : (Builtin.zeroCells (Value.int .i64 0).cells n).toList = List.replicate n (.int .i64 0) := by
    simp [Builtin.zeroCells, Value.cells]
    apply List.ext_getElem
    · simp
    · intro i h1 h2
      simp [Nat.mod_one]
  obtain ⟨w', hrun, r1, r2, r3⟩ := copyk.run_clear_k (P := Tryz.prog) w 22 2 o.type (.int .i64 0) 1 Tryz.underlying22 zeroI (some ⟨g, k, none⟩) n c g k (cellsOf xs) 2 hF (fun _ => rfl) (by rw [hz]; simp) (by rw [hz]; intro v hv; rw [List.eq_of_mem_replicate hv]; rfl) (by simp; omega)
  rw [if_neg (by omega), hz, splice_fill] at r1
  have b0 := r3 (Below.refl 0 w) (Nat.zero_le _)
  unfold Oper.wp
  simp [execOp, ho, resolve, invoke, builtin, hs, hrun, Result.andThen]
  exact h w' r1 ⟨b0.os, b0.tape, b0.output, b0.size, fun j _ hj => r2 j (fun e => hj (by rw [e]))⟩

theorem grown_two {a b c : World} {r : Option Nat} (h : a.grownBy b r) (k : b.grownBy c r) : a.grownBy c r :=
  ⟨k.os.trans h.os, k.tape.trans h.tape, k.output.trans h.output, Nat.le_trans h.size k.size, fun j hj hn => (k.block j (Nat.lt_of_lt_of_le hj h.size) hn).trans (h.block j hj hn)⟩
theorem grown_bel' {w w' : World} (hb : Below w.heap.size w w') (r : Option Nat) : w.grownBy w' r := ⟨hb.os, hb.tape, hb.output, hb.size, fun k hk _ => hb.block k hk⟩
theorem full_grown {w w' : World} {g b : Nat} {xs : List Int} (h : Full w b xs) (hg : w.grownBy w' (some g)) (hne : b ≠ g) : Full w' b xs := (hg.block b (lt_of_block h) (fun e => hne (by injection e))).trans h

theorem full_bel {w w' : World} {b : Nat} {xs : List Int} (h : Full w b xs) (hb : Below w.heap.size w w') : Full w' b xs := (hb.block b (lt_of_block h)).trans h
theorem fc_cells {w : World} {b : Nat} {k n : Int} (h : w.heap[b]? = some (fcb k n)) : w.cell? ⟨b, 0, none⟩ = some (.int .i64 k) ∧ w.cell? ⟨b, 1, none⟩ = some (.int .i64 n) := ⟨by simp [World.cell?, h], by simp [World.cell?, h]⟩
theorem grown_setG {w w' : World} {g : Nat} (h : w.grownBy w' (some g)) (k : Nat) (u : Value) : w.grownBy (w'.setCell ⟨g, k, none⟩ u) (some g) :=
  ⟨h.os, h.tape, h.output, by simpa using h.size, fun k' hk hne => (Below.heap_setCell w' _ u k' (fun e => hne (by simp [e]))).trans (h.block k' hk hne)⟩

set_option maxHeartbeats 2000000 in
theorem putHead_any {w : World} {g len cap k n : Nat} {xs : List Int} (F : Full w g xs) (hx : xs.length = len) (hl : len ≤ 1048576) (h2 : 2 ≤ n) (hkn : k + n ≤ len) :
    Calls Tryz.prog 71 #[fcv k n, .slice (some ⟨g, 0, none⟩) len cap] w fun e w' => e = .returned (.tuple #[]) ∧ Full w' g ((xs.set k (pk 0 6 0 0 false false)).set (k + 1) n) ∧ w.grownBy w' (some g) := by
  subst hx
  have PK := packed_any 0 6 0 0 false false
  rw [show pkd 0 6 0 0 false false = pk 0 6 0 0 false false by decide] at PK
  generalize pk 0 6 0 0 false false = hd at *
  have hg := lt_of_block F
  have F0 : Full (w.alloc (fcb k n)) g xs := (Below.heap_alloc w _ g hg).trans F
  have G0 : w.grownBy (w.alloc (fcb k n)) (some g) := World.grownBy_alloc w _ _
  have B0 : (w.alloc (fcb k n)).heap[w.heap.size]? = some (fcb k n) := heap_alloc_new _ _
  have ne : w.heap.size ≠ g := by omega
  obtain ⟨b0, b1⟩ := fc_cells B0
  have c0 := full_cell F0 (show k < xs.length by omega)
  have q0 := full_frozen F0 k
  have HALL : Hid (∀ w4, w4 = ((w.alloc (fcb k n)).drew.alloc (hb 0 6 0 0 false false)).alloc (hb 0 6 0 0 false false) →
      (w4.cell? ⟨w.heap.size, 0, none⟩ = some (.int .i64 k) ∧ w4.cell? ⟨g, k, none⟩ = some (.int .i64 (xs.getD k 0)) ∧ w4.frozen? ⟨g, k, none⟩ = false) ∧
      ((w4.setCell ⟨g, k, none⟩ (.int .i64 hd)).cell? ⟨w.heap.size, 0, none⟩ = some (.int .i64 k) ∧ (w4.setCell ⟨g, k, none⟩ (.int .i64 hd)).cell? ⟨w.heap.size, 1, none⟩ = some (.int .i64 n) ∧ (w4.setCell ⟨g, k, none⟩ (.int .i64 hd)).cell? ⟨g, k + 1, none⟩ = some (.int .i64 ((xs.set k hd).getD (k + 1) 0)) ∧ (w4.setCell ⟨g, k, none⟩ (.int .i64 hd)).frozen? ⟨g, k + 1, none⟩ = false) ∧
      Full ((w4.setCell ⟨g, k, none⟩ (.int .i64 hd)).setCell ⟨g, k + 1, none⟩ (.int .i64 n)) g ((xs.set k hd).set (k + 1) n) ∧ w.grownBy ((w4.setCell ⟨g, k, none⟩ (.int .i64 hd)).setCell ⟨g, k + 1, none⟩ (.int .i64 n)) (some g)) := by
    rintro w4 hw4
    have b4 : Below (w.alloc (fcb k n)).heap.size (w.alloc (fcb k n)) w4 := by rw [hw4]; exact ((Below.refl (w.alloc (fcb k n)).heap.size (w.alloc (fcb k n))).drew.alloc (by simp [World.drew]) _).alloc (by simp [World.drew]) _
    have F4 := full_bel F0 b4
    have T4 := (b4.block w.heap.size (by simp)).trans B0
    have F5 := full_set F4 k hd
    have T5 := (Below.heap_setCell w4 ⟨g, k, none⟩ (.int .i64 hd) w.heap.size ne).trans T4
    exact ⟨⟨(fc_cells T4).1, full_cell F4 (by omega), full_frozen F4 k⟩, ⟨(fc_cells T5).1, (fc_cells T5).2, full_cell F5 (by simp; omega), full_frozen F5 _⟩, full_set F5 (k + 1) n, grown_setG (grown_setG (grown_two G0 (grown_bel' b4 _)) k _) (k + 1) _⟩
  have hk : k < xs.length := by omega
  have hk1 : k + 1 < xs.length := by omega
  clear F F0 G0 B0
  generalize xs.getD k 0 = z0 at *
  generalize (xs.set k hd).getD (k + 1) 0 = z1 at *
  generalize hR : (xs.set k hd).set (k + 1) (n : Int) = R at *
  clear hR
  go_enter Tryz.func71, Tryz.ntmps71
  go_wp2_with fail
  go_region_law (go_simp; go_at_call 80; refine (PK _).mono ?_; clear PK; rintro e w4 ⟨rfl, hw4⟩; obtain ⟨⟨d0, d1, d2⟩, ⟨d3, d4, d5, d6⟩, d7⟩ := HALL.out w4 hw4; have HD : Hid _ := d7; clear d7 hw4 HALL)
  all_goals go_wp2
  all_goals go_end0
  all_goals exact ⟨rfl, HD.out⟩

set_option maxHeartbeats 2000000 in
theorem putEmpty_any {w : World} {g len cap k n : Nat} {xs : List Int} (F : Full w g xs) (hx : xs.length = len) (hl : len ≤ 1048576) (h2 : 2 ≤ n) (hkn : k + n ≤ len) (hc : len ≤ cap) :
    Calls Tryz.prog 129 #[fcv k n, .slice (some ⟨g, 0, none⟩) len cap] w fun e w' => e = .returned (.tuple #[]) ∧ Full w' g (freeR xs k n) ∧ w.grownBy w' (some g) := by
  subst hx
  have hg := lt_of_block F
  have F0 : Full (w.alloc (fcb k n)) g xs := (Below.heap_alloc w _ g hg).trans F
  have G0 : w.grownBy (w.alloc (fcb k n)) (some g) := World.grownBy_alloc w _ _
  have B0 : (w.alloc (fcb k n)).heap[w.heap.size]? = some (fcb k n) := heap_alloc_new _ _
  have ne : w.heap.size ≠ g := by omega
  obtain ⟨b0, b1⟩ := fc_cells B0
  have EN := end_any k n (by omega)
  have HALL : Hid (∀ w4, w4 = ((w.alloc (fcb k n)).drew.alloc (fcb k n)) → (w4.cell? ⟨w.heap.size, 0, none⟩ = some (.int .i64 k) ∧ w4.cell? ⟨w.heap.size, 1, none⟩ = some (.int .i64 n)) ∧ Full w4 g xs ∧
      ∀ w5, Full w5 g (fill xs k n 0) → w4.grownBy w5 (some g) → (w5.cell? ⟨w.heap.size, 0, none⟩ = some (.int .i64 k) ∧ w5.cell? ⟨w.heap.size, 1, none⟩ = some (.int .i64 n)) ∧ w.grownBy w5 (some g)) := by
    rintro w4 hw4
    have b4 : Below (w.alloc (fcb k n)).heap.size (w.alloc (fcb k n)) w4 := by rw [hw4]; exact (Below.refl (w.alloc (fcb k n)).heap.size (w.alloc (fcb k n))).drew.alloc (by simp [World.drew]) _
    have F4 := full_bel F0 b4
    have T4 := (b4.block w.heap.size (by simp)).trans B0
    refine ⟨fc_cells T4, F4, fun w5 F5 g5 => ⟨fc_cells ((g5.block w.heap.size (lt_of_block T4) (fun e => ne (by injection e))).trans T4), grown_two (grown_two G0 (grown_bel' b4 _)) g5⟩⟩
  have HFR : Hid _ := freeR_set hkn h2
  have hfl : (fill xs k n 0).length = xs.length := fill_length hkn
  have q1 : (0 : Int) ≤ (k : Int) + n := by omega
  have q2 : (k : Int) + n ≤ cap := by omega
  have q3 : ((k : Int) + (n : Int)).toNat = k + n := by omega
  have q4 : ¬ cap = k := by omega
  clear F F0 G0 B0
  go_enter Tryz.func129, Tryz.ntmps129
  go_wp2_with fail
  go_region_law (first
    | (go_simp; go_at_call 145; refine (EN _).mono ?_; clear EN; rintro e w4 ⟨rfl, hw4⟩; obtain ⟨⟨d0, d1⟩, d2, d3⟩ := HALL.out w4 hw4; have HF4 : Hid _ := d2; have HN : Hid _ := d3; clear d2 d3 hw4 HALL)
    | (refine step_clear_ints rfl (.tmp 9) rfl (g := g) (k := k) (n := n) (c := cap - k) (xs := xs) (by first | rfl | (simp [go_sem]; done)) (by omega) HF4.out hkn ?_; intro w5 f5 g5; obtain ⟨⟨m0, m1⟩, m2⟩ := HN.out w5 f5.out g5.out; have HG5 : Hid _ := m2; clear m2 g5 HN HF4))
  all_goals go_wp2_with fail
  all_goals refine (putHead_any f5.out hfl hl h2 hkn).mono ?_
  all_goals rintro e w6 ⟨rfl, F6, G6⟩
  all_goals rw [HFR.out] at F6
  all_goals have HF : Hid _ := F6
  all_goals have HG : Hid _ := grown_two HG5.out G6
  all_goals clear F6 G6 HG5 f5
  all_goals go_wp2
  all_goals go_end0
  all_goals exact ⟨rfl, HF.out, HG.out⟩
end Go.Proofs.YtemlagfaaibenaaGreat.walks
namespace Go.Proofs.YtemlagfaaibenaaGreat.walks
open Go.RowKit rows heads words
set_option maxRecDepth 100000

set_option maxHeartbeats 4000000 in
theorem l4Free_is {w : World} {base g len cap k n : Nat} {xs : List Int} (hO : w.ownsRow base 2 1 (.slice (some ⟨g, 0, none⟩) len cap) len (cellsOf xs)) (hx : xs.length = len) (hl : len ≤ 1048576) (hg : base ≤ g) (hbw : base ≤ w.heap.size) (h2 : 2 ≤ n) (hkn : k + n ≤ len) :
    Calls Tryz.prog 54 #[.slice (some ⟨g, 0, none⟩) len cap, .int .i64 k, .int .i64 n] w fun e w' => (∃ v', e = .returned v') ∧ w'.ownsRow base 2 1 (.slice (some ⟨g, 0, none⟩) len cap) len (cellsOf (freeR xs k n)) ∧ Below base w w' := by
  have hok6 : hok 0 6 0 0 false false = true := by decide
  go_enter Tryz.func54, Tryz.ntmps54
  go_wp2_with fail
  go_loopw [6] (fun i wr => ∃ j : Nat, j ≤ n ∧ i = .int .i64 (j : Int) ∧ wr.ownsRow base 2 1 (.slice (some ⟨g, 0, none⟩) len cap) len (cellsOf (fill xs k j 0)) ∧ Below base w wr) (fun i _ => n - (intOf i).toNat)
  case atStart => exact ⟨0, by omega, by simp, by rw [fill_zero]; exact hO, Below.refl _ _⟩
  case round =>
    obtain ⟨j, hj, rfl, Or, Br⟩ := hrel
    by_cases hlt : j < n
    · have hlt' : (j : Int) < (n : Int) := by omega
      have c0 := World.ownsRow.cellAt Or (k + j) (by omega)
      have c1 := World.ownsRow.frozenAt Or (k + j)
      have S := (World.ownsRow.stored Or (k + j) (.int .i64 0)).1
      have e1 : (cellsOf (fill xs k j 0)).set (k + j) (.int .i64 0) = cellsOf (fill xs k (j + 1) 0) := by
        rw [← fill_set (by omega)]; simp [cellsOf, List.map_set]
      rw [e1] at S
      have HO : Hid _ := S
      have HB : Hid _ := Br.setCell (p := ⟨g, k + j, none⟩) hg (.int .i64 0)
      obtain ⟨y, hy'⟩ : ∃ y, (cellsOf (fill xs k j 0))[k + j]? = some y := ⟨_, List.getElem?_eq_getElem (by simp [fill_length (show k + j ≤ xs.length by omega)]; omega)⟩
      rw [hy'] at c0
      clear Or Br S e1 hy' hO
      go_wp2
      exact ⟨⟨j + 1, by omega, by go_num, HO, HB⟩, by simp [intOf]; omega⟩
    · have e : j = n := by omega
      subst e
      have hlt' : ¬ (j : Int) < (j : Int) := by omega
      have HO : Hid _ := Or
      have HB : Hid _ := Br
      have HFR : Hid (((fill xs k j 0).set k (pk 0 6 0 0 false false)).set (k + 1) (j : Int) = freeR xs k j) := freeR_set (by omega) h2
      clear Or Br hO
      go_wp2_with fail
      refine (l2Packed_ok 0 6 0 0 false false wr hok6).mono ?_
      rintro e w2 ⟨rfl, hw2⟩
      have O2 : w2.ownsRow base 2 1 (.slice (some ⟨g, 0, none⟩) len cap) len (cellsOf (fill xs k j 0)) := by rw [hw2]; exact World.ownsRow.alloc HO.out _
      have B2 : Below base w w2 := by rw [hw2]; exact HB.out.alloc (Nat.le_trans hbw HB.out.size) _
      clear hw2 HO HB
      have hfl : (fill xs k j 0).length = len := by rw [fill_length (by omega)]; exact hx
      have c0 := World.ownsRow.cellAt O2 k (by omega)
      have c1 := World.ownsRow.frozenAt O2 k
      have S := (World.ownsRow.stored O2 k (.int .i64 (pk 0 6 0 0 false false))).1
      have d0 := World.ownsRow.cellAt S (k + 1) (by omega)
      have d1 := World.ownsRow.frozenAt S (k + 1)
      have S2 := (World.ownsRow.stored S (k + 1) (.int .i64 (j : Int))).1
      have e1 : ((cellsOf (fill xs k j 0)).set k (.int .i64 (pk 0 6 0 0 false false))).set (k + 1) (.int .i64 (j : Int)) = cellsOf (freeR xs k j) := by rw [← HFR.out]; simp [cellsOf, List.map_set]
      rw [e1] at S2
      have HO : Hid _ := S2
      have HB : Hid _ := (B2.setCell (p := ⟨g, k, none⟩) hg (.int .i64 (pk 0 6 0 0 false false))).setCell (p := ⟨g, k + 1, none⟩) hg (.int .i64 (j : Int))
      obtain ⟨y, hy'⟩ : ∃ y, (cellsOf (fill xs k j 0))[k]? = some y := ⟨_, List.getElem?_eq_getElem (by simp [hfl]; omega)⟩
      rw [hy'] at c0
      obtain ⟨y2, hy2⟩ : ∃ y, ((cellsOf (fill xs k j 0)).set k (.int .i64 (pk 0 6 0 0 false false)))[k + 1]? = some y := ⟨_, List.getElem?_eq_getElem (by simp [hfl]; omega)⟩
      rw [hy2] at d0
      clear O2 B2 S S2 e1 hy' hy2 hlt' hlt HFR
      go_wp2
      go_end0
      exact ⟨⟨_, rfl⟩, HO.out, HB.out⟩

end Go.Proofs.YtemlagfaaibenaaGreat.walks
namespace Go.Proofs.YtemlagfaaibenaaGreat.walks
open Go.RowKit rows heads words

/-- A place of a row. -/
abbrev Pl := Fin 1001
def pls (ys : List Int) : Nat → Nat → List Pl
  | 0, _ => []
  | n + 1, k => if h : k ≤ 1000 then (if chunk ys k = 0 then [] else ⟨k, by omega⟩ :: pls ys n (k + (chunk ys k).toNat)) else []
theorem pls_end {ys : List Int} {k : Nat} (n : Nat) (h : chunk ys k = 0) : pls ys n k = [] := by
  cases n with
  | zero => rfl
  | succ n =>
    unfold pls
    by_cases hk : k ≤ 1000
    · rw [dif_pos hk, if_pos h]
    · rw [dif_neg hk]
theorem pls_step {ys : List Int} {k : Nat} (n : Nat) (hk : k < 1001) (h : chunk ys k ≠ 0) : pls ys (n + 1) k = ⟨k, hk⟩ :: pls ys n (k + (chunk ys k).toNat) := by
  conv => lhs; unfold pls
  rw [dif_pos (by omega), if_neg h]
theorem pls_more (ys : List Int) (hl : ys.length ≤ 1000) : ∀ (n m k : Nat), ys.length - k ≤ n → ys.length - k ≤ m → pls ys n k = pls ys m k := by
  intro n
  induction n with
  | zero =>
    intro m k h _
    have := chunk_bounds ys k
    rw [pls_end _ (by omega), pls_end _ (by omega)]
  | succ n ih =>
    intro m k h h'
    have := chunk_bounds ys k
    by_cases h0 : chunk ys k = 0
    · rw [pls_end _ h0, pls_end _ h0]
    · obtain ⟨m', rfl⟩ : ∃ m', m = m' + 1 := ⟨m - 1, by omega⟩
      rw [pls_step n (by omega) h0, pls_step m' (by omega) h0, ih m' _ (by omega) (by omega)]
/-- The places of chunks from k on, as far as there are any. -/
def plO (ys : List Int) (k : Nat) : List Pl := pls ys (ys.length - k) k
theorem plO_end {ys : List Int} {k : Nat} (h : chunk ys k = 0) : plO ys k = [] := pls_end _ h
theorem plO_step {ys : List Int} {k : Nat} (hl : ys.length ≤ 1000) (hk : k < 1001) (h : chunk ys k ≠ 0) : plO ys k = ⟨k, hk⟩ :: plO ys (k + (chunk ys k).toNat) := by
  have := chunk_bounds ys k
  unfold plO
  obtain ⟨m, hm⟩ : ∃ m, ys.length - k = m + 1 := ⟨ys.length - k - 1, by omega⟩
  rw [hm, pls_step m hk h, pls_more ys hl m (ys.length - (k + (chunk ys k).toNat)) _ (by omega) (by omega)]
theorem pls_length (ys : List Int) : ∀ (n k : Nat), (pls ys n k).length ≤ n := by
  intro n
  induction n with
  | zero => intro k; simp [pls]
  | succ n ih =>
    intro k
    unfold pls
    split
    · split
      · simp
      · have := ih (k + (chunk ys k).toNat); simp; omega
    · simp
theorem plO_length (ys : List Int) (k : Nat) : (plO ys k).length ≤ ys.length := Nat.le_trans (pls_length ys _ _) (by omega)

/-- Where the last one ended. -/
def enf (ys : List Int) (e : Int) (l : List Pl) : Int := l.foldl (fun _ x => (x.val : Int) + chunk ys x.val) e
theorem enf_snoc (ys : List Int) (e : Int) (l : List Pl) (x : Pl) : enf ys e (l ++ [x]) = (x.val : Int) + chunk ys x.val := by simp [enf]
theorem enf_cons (ys : List Int) (e : Int) (x : Pl) (l : List Pl) : enf ys e (x :: l) = enf ys ((x.val : Int) + chunk ys x.val) l := rfl

/-- What is cut off behind t has just the chunks that end by t. -/
theorem chunk_take {xs : List Int} {k t : Nat} (hk : k < t) (ht : t ≤ xs.length) : chunk (xs.take t) k = if chunk xs k = 0 ∨ (k : Int) + chunk xs k > t then 0 else chunk xs k := by
  have e0 : (xs.take t).getD k 0 = xs.getD k 0 := by simp [List.getD_eq_getElem?_getD, hk]
  have e1 : k + 1 < t → (xs.take t).getD (k + 1) 0 = xs.getD (k + 1) 0 := fun h => by simp [List.getD_eq_getElem?_getD, h]
  have el : (xs.take t).length = t := by simp; omega
  have bs := uS_bounds (xs.getD k 0)
  have zs := sz_bounds bs.1 bs.2
  unfold chunk
  rw [e0, el]
  by_cases ho : (ok (xs.getD k 0) && !uM (xs.getD k 0)) = true
  · simp only [if_pos ho]
    by_cases h6 : uF (xs.getD k 0) = 6
    · simp only [if_pos h6]
      by_cases hk1 : k + 1 < t
      · rw [e1 hk1]
        have hk2 : k + 1 < xs.length := by omega
        generalize xs.getD (k + 1) 0 = y
        by_cases hf : freeOk t k y = true
        · have hf' := hf
          simp only [freeOk, decide_eq_true_eq] at hf'
          have hg : freeOk xs.length k y = true := by simp only [freeOk, decide_eq_true_eq]; omega
          have L : (if k + 1 < t ∧ freeOk t k y = true then y else 0) = y := if_pos ⟨hk1, hf⟩
          have R : (if k + 1 < xs.length ∧ freeOk xs.length k y = true then y else 0) = y := if_pos ⟨hk2, hg⟩
          rw [L, R, if_neg]
          omega
        · have L : (if k + 1 < t ∧ freeOk t k y = true then y else 0) = 0 := if_neg (fun h => hf h.2)
          simp only [freeOk, decide_eq_true_eq] at hf
          by_cases hg : freeOk xs.length k y = true
          · have hg' := hg
            simp only [freeOk, decide_eq_true_eq] at hg'
            have R : (if k + 1 < xs.length ∧ freeOk xs.length k y = true then y else 0) = y := if_pos ⟨hk2, hg⟩
            rw [L, R, if_pos]
            omega
          · have R : (if k + 1 < xs.length ∧ freeOk xs.length k y = true then y else 0) = 0 := if_neg (fun h => hg h.2)
            rw [L, R, if_pos (.inl rfl)]
      · generalize (xs.take t).getD (k + 1) 0 = y'
        generalize xs.getD (k + 1) 0 = y
        have L : (if k + 1 < t ∧ freeOk t k y' = true then y' else 0) = 0 := if_neg (fun h => hk1 h.1)
        rw [L]
        by_cases hg : k + 1 < xs.length ∧ freeOk xs.length k y = true
        · have hg' := hg.2
          simp only [freeOk, decide_eq_true_eq] at hg'
          have R : (if k + 1 < xs.length ∧ freeOk xs.length k y = true then y else 0) = y := if_pos hg
          rw [R, if_pos]
          omega
        · have R : (if k + 1 < xs.length ∧ freeOk xs.length k y = true then y else 0) = 0 := if_neg hg
          rw [R, if_pos (.inl rfl)]
    · simp only [if_neg h6]
      by_cases hc : (k : Int) + sz (uS (xs.getD k 0)) ≤ t
      · rw [e1 (by omega)]
        generalize sz (uS (xs.getD k 0)) = z at *
        by_cases h7 : uF (xs.getD k 0) = 7 → isA (xs.getD (k + 1) 0) = true
        · have L : (if (k : Int) + z ≤ t ∧ (uF (xs.getD k 0) = 7 → isA (xs.getD (k + 1) 0) = true) then z else 0) = z := if_pos ⟨hc, h7⟩
          have R : (if (k : Int) + z ≤ xs.length ∧ (uF (xs.getD k 0) = 7 → isA (xs.getD (k + 1) 0) = true) then z else 0) = z := if_pos ⟨by omega, h7⟩
          rw [L, R, if_neg]
          omega
        · have L : (if (k : Int) + z ≤ t ∧ (uF (xs.getD k 0) = 7 → isA (xs.getD (k + 1) 0) = true) then z else 0) = 0 := if_neg (fun h => h7 h.2)
          have R : (if (k : Int) + z ≤ xs.length ∧ (uF (xs.getD k 0) = 7 → isA (xs.getD (k + 1) 0) = true) then z else 0) = 0 := if_neg (fun h => h7 h.2)
          rw [L, R, if_pos (.inl rfl)]
      · generalize sz (uS (xs.getD k 0)) = z at *
        generalize (xs.take t).getD (k + 1) 0 = y'
        have L : (if (k : Int) + z ≤ t ∧ (uF (xs.getD k 0) = 7 → isA y' = true) then z else 0) = 0 := if_neg (fun h => hc h.1)
        rw [L]
        by_cases hg : (k : Int) + z ≤ xs.length ∧ (uF (xs.getD k 0) = 7 → isA (xs.getD (k + 1) 0) = true)
        · have R : (if (k : Int) + z ≤ xs.length ∧ (uF (xs.getD k 0) = 7 → isA (xs.getD (k + 1) 0) = true) then z else 0) = z := if_pos hg
          rw [R, if_pos]
          omega
        · have R : (if (k : Int) + z ≤ xs.length ∧ (uF (xs.getD k 0) = 7 → isA (xs.getD (k + 1) 0) = true) then z else 0) = 0 := if_neg hg
          rw [R, if_pos (.inl rfl)]
  · simp only [if_neg ho]; simp

theorem walk_by {xs : List Int} {t : Nat} (ht : t ≤ xs.length) (hm : t ≤ 1000) : ∀ (n k : Nat), t - k ≤ n → k ≤ t →
    walkO xs k t = if enf (xs.take t) k (plO (xs.take t) k) = t then some ((plO (xs.take t) k).map (fun p => (p.val : Int))) else none := by
  have el : (xs.take t).length = t := by simp; omega
  intro n
  induction n with
  | zero =>
    intro k h1 h2
    have ek : k = t := by omega
    subst ek
    have := chunk_bounds (xs.take k) k
    rw [walkO_end (by omega), plO_end (by omega)]
    simp [enf]
  | succ n ih =>
    intro k h1 h2
    by_cases hk : k < t
    · have ct := chunk_take hk ht
      by_cases hb : chunk xs k = 0 ∨ (k : Int) + chunk xs k > t
      · rw [if_pos hb] at ct
        rw [walkO_bad hk hb, plO_end ct, if_neg]
        simp [enf]; omega
      · rw [if_neg hb] at ct
        have := chunk_bounds xs k
        rw [walkO_step hk hb, plO_step (by omega) (show k < 1001 by omega) (by omega), enf_cons, ct, ih _ (by omega) (by omega)]
        have e : ((k : Int) + chunk xs k) = ((k + (chunk xs k).toNat : Nat) : Int) := by omega
        rw [e]
        split <;> simp
    · have ek : k = t := by omega
      subst ek
      have := chunk_bounds (xs.take k) k
      rw [walkO_end hk, plO_end (by omega)]
      simp [enf]
end Go.Proofs.YtemlagfaaibenaaGreat.walks
namespace Go.Proofs.YtemlagfaaibenaaGreat.walks
open Go.RowKit rows heads words
set_option maxRecDepth 100000

theorem grown_join {a b c : World} {r : Option Nat} (h : a.grownBy b r) (k : b.grownBy c r) : a.grownBy c r :=
  ⟨k.os.trans h.os, k.tape.trans h.tape, k.output.trans h.output, Nat.le_trans h.size k.size, fun j hj hn => (k.block j (Nat.lt_of_lt_of_le hj h.size) hn).trans (h.block j hj hn)⟩
theorem app_int {w w1 : World} {base : Nat} {v v' : Value} {o : Obj} {xs : List Int} {x : Int} (hown : w1.ownsRow base 2 1 v' (xs.length + 1) (cellsOf xs ++ [.int .i64 x])) (hgrow : (w.alloc o).grownBy w1 v.ownBlock) (hat : v'.ownBlock = v.ownBlock ∨ v'.ownBlock = some (w.alloc o).heap.size) :
    rows.Own w1 base v' (xs ++ [x]) ∧ w.grownBy w1 v.ownBlock ∧ ∀ k, v'.ownBlock = some k → v.ownBlock = some k ∨ w.heap.size < k :=
  ⟨own_snoc hown, grown_join (World.grownBy_alloc w o _) hgrow, fun k e => by
    rcases hat with h | h
    · exact .inl (h ▸ e)
    · right; rw [h] at e; injection e with e; simp at e; omega⟩
theorem one_int (w : World) (x : Int) : ∀ i u, [Value.int .i64 x][i]? = some u → (w.alloc (.cells #[.int .i64 x] 2)).cell? ((⟨w.heap.size, 0, none⟩ : Addr).add i) = some u := by
  intro j u hj
  match j, hj with
  | 0, hj => simp at hj; subst hj; simp [Addr.add]
theorem filter_next {L : List Int} {p : Int → Bool} {k : Nat} (hk : k < L.length) : (L.take (k + 1)).filter p = (L.take k).filter p ++ (if p (L.getD k 0) = true then [L.getD k 0] else []) := by
  rw [List.take_add_one, List.filter_append, List.getElem?_eq_getElem hk, List.getD_eq_getElem?_getD, List.getElem?_eq_getElem hk]
  simp only [Option.toList_some, Option.getD_some]
  congr 1
  cases h : p L[k] <;> simp [h]

end Go.Proofs.YtemlagfaaibenaaGreat.walks
namespace Go.Proofs.YtemlagfaaibenaaGreat.hp
open Go.RowKit rows heads words walks region
set_option linter.unusedVariables false

def RelB (B : Nat) (G C : Option Obj → Prop) (W W' : World) : Prop := Ch [B] W W' ∧ (G W.heap[B]? → G W'.heap[B]?) ∧ (C W.heap[B]? → C W'.heap[B]?)
theorem relB_refl (B : Nat) (G C : Option Obj → Prop) (W : World) : RelB B G C W W := ⟨Ch.refl _ _, fun z => z, fun z => z⟩
theorem relB_trans (B : Nat) (G C : Option Obj → Prop) (a b c : World) (h : RelB B G C a b) (g : RelB B G C b c) : RelB B G C a c := ⟨h.1.trans g.1, fun z => g.2.1 (h.2.1 z), fun z => g.2.2 (h.2.2 z)⟩
theorem relB_drew (B : Nat) (G C : Option Obj → Prop) (W : World) : RelB B G C W W.drew := ⟨⟨rfl, rfl, rfl, Nat.le_refl _, fun _ _ _ => rfl⟩, fun z => z, fun z => z⟩
theorem relB_below {B : Nat} {G C : Option Obj → Prop} {W W' : World} (h : Below W.heap.size W W') (hB : B < W.heap.size) : RelB B G C W W' := ⟨ch_below h, fun z => by rw [h.block _ hB]; exact z, fun z => by rw [h.block _ hB]; exact z⟩
theorem ch_cell {S : List Nat} {w w' : World} {p : Addr} (h : Ch S w w') (hl : p.block < w.heap.size) (hn : p.block ∉ S) : w'.cell? p = w.cell? p := by
  unfold World.cell?
  rw [h.block _ hl hn]
end Go.Proofs.YtemlagfaaibenaaGreat.hp
