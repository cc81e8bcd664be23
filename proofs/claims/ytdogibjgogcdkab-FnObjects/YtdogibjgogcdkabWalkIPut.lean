/-
  What the program's PutObject answers.
  Made from the template WalkIPut.
-/
import Derived.Test.YtdogibjgogcdkabWalkIPutA
import Derived.Test.YtdogibjgogcdkabRowsICut
import Derived.Test.YtdogibjgogcdkabRowsICopy
namespace Go.Proofs.Ytdogibjgogcdkab.walks
open Go.RowKit rows heads words
set_option maxRecDepth 100000

theorem full_below {w w' : World} {b : Nat} {xs : List Int} (h : Full w b xs) (hb : Below w.heap.size w w') : Full w' b xs := (hb.block b (lt_of_block h)).trans h

theorem putOk_by {xs ys : List Int} {i s f c g : Int} {p m : Bool} (d : rowOk xs = true) : putOk xs i s f c g p m ys = (pOk s f c g p m ys && cutOk xs.length i (sz s)) := by
  cases e : (pOk s f c g p m ys && cutOk xs.length i (sz s))
  · refine putOk_false ?_
    rintro ⟨h1, h2, h3, h4, h5, h6, h7⟩
    obtain ⟨s0, s1, _⟩ := hok_true h1
    have hz := sz_bounds s0 s1
    have ha := atOk_true h5
    rw [pOk_true ⟨h1, h3, by omega, by omega, h4⟩, h7, Bool.true_and] at e
    have := cutOk_false e
    omega
  · rw [Bool.and_eq_true] at e
    obtain ⟨e1, e2⟩ := e
    have hp : hok s f c g p m = true ∧ m = false ∧ ¬ f = 6 ∧ ¬ f = 7 ∧ (ys.length : Int) = s := by
      by_cases hh : hok s f c g p m = true ∧ m = false ∧ ¬ f = 6 ∧ ¬ f = 7 ∧ (ys.length : Int) = s
      · exact hh
      · rw [pOk_false hh] at e1; cases e1
    rw [pOk_true hp] at e1
    obtain ⟨h1, h2, h3, h4, h5⟩ := hp
    obtain ⟨s0, s1, _⟩ := hok_true h1
    have hz := sz_bounds s0 s1
    have hc := cutOk_true e2
    have hf : f ≤ 2 := by
      unfold hok at h1
      rw [if_neg h3] at h1
      simp at h1
      omega
    exact putOk_true d ⟨h1, hf, h2, h5, by simp [atOk]; omega, by omega, e1⟩

/-- What is written, word by word, is the row with the object put in. -/
theorem put_by {xs ys : List Int} {k n : Nat} {hd : Int} (h : k + n ≤ xs.length) (hn : n = ys.length + 1 ∨ n = ys.length + 2) :
    splice (cellsOf ((xs.set (k + (n - 1)) 0).set k hd)) (k + 1) (cellsOf ys) = cellsOf (put xs k hd ys ys.length n) := by
  have e : ((xs.set (k + (n - 1)) 0).set k hd).take (k + 1) ++ ys ++ ((xs.set (k + (n - 1)) 0).set k hd).drop (k + 1 + ys.length) = put xs k hd ys ys.length n := by
    apply List.ext_getElem?
    intro i
    simp only [put, List.getElem?_set, List.getElem?_append, List.length_take, List.getElem?_take, List.getElem?_cons, List.length_cons, List.getElem?_replicate, List.length_append, List.length_replicate, List.getElem?_drop, List.length_set]
    grind
  rw [← e]
  simp [splice, cellsOf, List.map_take, List.map_drop]

set_option maxHeartbeats 4000000 in
theorem put_yes {w : World} {v vs : Value} {xs ys : List Int} (h : IntsAt w v xs) (hy : IntsAt w vs ys) (hl : xs.length ≤ 1048576) (hyl : ys.length ≤ 1048576) (ha : AllI ys) (d1 : rowOk xs = true) (k : Nat) (s f c g : Int) (p m : Bool)
    (hP : pOk s f c g p m ys = true) (N : Nat) (hN : sz s = N) (hN2 : N = ys.length + 1 ∨ N = ys.length + 2) (hN3 : 2 ≤ N) (hk : k + N ≤ xs.length) (hh : hok s f c g p m = true) :
    Calls Try.prog 10 #[v, .int .i64 k, hv s f c g p m, vs] w fun e w' => ∃ v', e = .returned (.tuple #[v', .bool true]) ∧ Own w' w.heap.size v' (put xs k (pk s f c g p m) ys ys.length N) ∧ Below w.heap.size w w' := by
  have hm : xs.length ≤ maxLen := by unfold maxLen; omega
  have B0 : Below w.heap.size w (w.alloc (hb s f c g p m)) := (Below.refl _ _).alloc (Nat.le_refl _) _
  have T0 := headAt_new w s f c g p m
  have s0 : w.heap.size + 1 ≤ (w.alloc (hb s f c g p m)).heap.size := by simp
  have RW := isRow_any (intsAt_below h B0)
  rw [d1] at RW
  have CP := copied_any (intsAt_below h B0) hl
  have OB : ∀ W, Below w.heap.size w W → _ := fun W hW => objectOk_any (intsAt_below hy hW) hyl ha s f c g p m
  rw [hP] at OB
  have SZ := sizeOf_any s
  rw [hN] at SZ
  have PK := packed_any s f c g p m
  have epk : pkd s f c g p m = pk s f c g p m := by simp [pkd, hh]
  rw [epk] at PK
  have h' := h
  obtain ⟨a, cap, rfl, hlc, hcm, _, _⟩ := h
  have hy' := hy
  obtain ⟨ya, ycap, rfl, ylc, ycm, ynil, _⟩ := hy
  have SRC : ∀ W, Below w.heap.size w W → 0 < ys.length → ∃ ad, ya = some ad ∧ ∀ j v, (cellsOf ys)[j]? = some v → W.cell? (ad.add j) = some v := fun W hW => src_of (intsAt_below hy' hW)
  have SPL := put_by (hd := pk s f c g p m) hk hN2
  have LEN : (put xs k (pk s f c g p m) ys ys.length N).length = xs.length := put_length hk (Nat.le_refl _) (by omega)
  generalize pk s f c g p m = hd at *
  generalize put xs k hd ys ys.length N = R at *
  have HSRC : Hid _ := SRC
  have HSPL : Hid _ := SPL
  have HLEN : Hid _ := LEN
  clear SRC SPL LEN hP hh hN epk ynil
  go_enter Try.func10, Try.ntmps10
  go_wp2_with fail
  generalize (w.alloc (Obj.cells #[.int .i64 s, .int .i64 f, .int .i64 c, .int .i64 g, .bool p, .bool m] 26)) = X at *
  refine RW.mono ?_
  rintro e w1 ⟨rfl, hw1⟩
  rw [hw1]
  clear hw1 w1 RW
  go_wp2_with fail
  refine CP.mono ?_
  rintro e w1 ⟨rfl, F1, b1⟩
  have s1 := b1.size
  have T1 := headAt_below T0 b1
  have B1 := B0.trans (b1.mono (by omega))
  clear CP T0 B0 b1
  generalize hq : X.heap.size = q at *
  obtain ⟨t0, t1, t2, t3, t4, t5, tf⟩ := headAt_cells T1
  go_wp2_with fail
  refine (OB _ B1).mono ?_
  clear OB t0 t1 t2 t3 t4 t5 tf
  rintro e w2 ⟨rfl, b2⟩
  have T2 := headAt_below T1 b2
  have F2 := full_below F1 b2
  have B2 := B1.trans (b2.mono B1.size)
  clear T1 F1 B1 b2
  obtain ⟨t0, t1, t2, t3, t4, t5, tf⟩ := headAt_cells T2
  clear tf
  go_wp2_with (go_at_call 17; refine (SZ _).mono ?_; rintro e w3 ⟨rfl, hw3⟩; rw [hw3]; clear hw3 w3)
  refine (cut_yes (Nat.le_refl _) hm k N (by omega)).mono ?_
  rintro e w3 ⟨rfl, hw3⟩
  rw [hw3, piece_at q 0 k N (by omega), Nat.zero_add]
  clear hw3 w3
  have c0 := full_cell F2 (show k + (N - 1) < xs.length by omega)
  have c1 := full_frozen F2 (k + (N - 1))
  have F3 := full_set F2 (k + (N - 1)) 0
  have B3 := B2.setCell (p := ⟨q, k + (N - 1), none⟩) (show w.heap.size ≤ q by omega) (.int .i64 0)
  have ne : w.heap.size ≠ q := by omega
  have T3 := headAt_other T2 (q := ⟨q, k + (N - 1), none⟩) ne (.int .i64 0)
  have eN : ((N : Int) - 1).toNat = N - 1 := by omega
  have HF3 : Hid _ := F3
  have HB3 : Hid _ := B3
  have HT3 : Hid _ := T3
  generalize xs.getD (k + (N - 1)) 0 = z at *
  clear F2 F3 B2 B3 T3 T2
  go_wp2_with fail
  generalize w2.setCell ⟨q, k + (N - 1), none⟩ (.int .i64 0) = W3 at *
  refine (PK _).mono ?_
  rintro e w4 ⟨rfl, hw4⟩
  have b4 : Below W3.heap.size W3 w4 := by
    rw [hw4]
    exact ((Below.refl _ W3).alloc (Nat.le_refl _) _).alloc (by simp) _
  have F4 := full_below HF3.out b4
  have B4 := HB3.out.trans (b4.mono HB3.out.size)
  clear hw4 b4 HF3 HB3 HT3 PK SZ t0 t1 t2 t3 t4 t5 c0 c1
  have c0 := full_cell F4 (show k < (xs.set (k + (N - 1)) 0).length by simp; omega)
  have c1 := full_frozen F4 k
  have F5 := full_set F4 k hd
  have B5 := B4.setCell (p := ⟨q, k, none⟩) (show w.heap.size ≤ q by omega) (.int .i64 hd)
  have HF5 : Hid _ := F5
  have HB5 : Hid _ := B5
  generalize (xs.set (k + (N - 1)) 0).getD k 0 = z2 at *
  clear F4 F5 B4 B5
  have h1N : ¬ N = 1 := by omega
  have q1 : (1 : Int) ≤ N := by omega
  generalize hzs : (xs.set (k + (N - 1)) 0).set k hd = zs at *
  have hzl : zs.length = xs.length := by rw [← hzs]; simp
  clear hzs
  have hlen : (cellsOf ys).length = Nat.min ys.length (N - 1) := by
    rw [show Nat.min ys.length (N - 1) = ys.length from Nat.min_eq_left (by omega)]; simp
  have hfit : k + 1 + (cellsOf ys).length ≤ (cellsOf zs).length := by simp; omega
  have hpos : 0 < (cellsOf ys).length → ∃ ad, ya = some ad ∧ ∀ j v, (cellsOf ys)[j]? = some v → (w4.setCell ⟨q, k, none⟩ (.int .i64 hd)).cell? (ad.add j) = some v := fun hp => HSRC.out _ HB5.out (by simpa using hp)
  have HL : Hid _ := hlen
  have HFT : Hid _ := hfit
  have HPS : Hid _ := hpos
  have hone : ∀ v ∈ cellsOf ys, v.oneCell' = true := ints_oneCell _ _
  have H1 : Hid _ := hone
  clear hlen hfit hpos hone
  obtain ⟨cs, hcs⟩ : ∃ cs, cellsOf ys = cs := ⟨_, rfl⟩
  rw [hcs] at HL HFT HPS H1 HSPL
  clear hcs
  go_wp2_with (refine wpList_copy_splice rfl (.tmp 45) (.tmp 46) 24 24 rfl 2 Try.underlying24 infoSize (some ⟨q, k + 1, none⟩) ya (N - 1) (N - 1) ys.length ycap rfl rfl q (k + 1) (cellsOf zs) 2 HF5.out cs HL.out (fun hp => ⟨rfl, HPS.out hp⟩) HFT.out H1.out w.heap.size w HB5.out (by omega) ?_; intro w5 hF hB)
  have F6 : Full w5 q R := by
    have := hF.out
    rw [HSPL.out] at this
    exact this
  have O6 := full_own F6 (show w.heap.size ≤ q by omega) (by rw [HLEN.out]; exact hm)
  rw [HLEN.out] at O6
  go_ret2
  exact ⟨_, rfl, O6, hB⟩

theorem put_no {w : World} {v vs : Value} {xs ys : List Int} (h : IntsAt w v xs) (hy : IntsAt w vs ys) (hl : xs.length ≤ 1048576) (hyl : ys.length ≤ 1048576) (ha : AllI ys) (d1 : rowOk xs = true) (i : Int) (s f c g : Int) (p m : Bool)
    (hP : pOk s f c g p m ys = false) :
    Calls Try.prog 10 #[v, .int .i64 i, hv s f c g p m, vs] w fun e w' => ∃ v', e = .returned (.tuple #[v', .bool false]) ∧ Own w' w.heap.size v' xs ∧ Below w.heap.size w w' := by
  have hm : xs.length ≤ maxLen := by unfold maxLen; omega
  have B0 : Below w.heap.size w (w.alloc (hb s f c g p m)) := (Below.refl _ _).alloc (Nat.le_refl _) _
  have T0 := headAt_new w s f c g p m
  have s0 : w.heap.size + 1 ≤ (w.alloc (hb s f c g p m)).heap.size := by simp
  have RW := isRow_any (intsAt_below h B0)
  rw [d1] at RW
  have CP := copied_any (intsAt_below h B0) hl
  have OB : ∀ W, Below w.heap.size w W → _ := fun W hW => objectOk_any (intsAt_below hy hW) hyl ha s f c g p m
  rw [hP] at OB
  clear hP
  go_enter Try.func10, Try.ntmps10
  go_wp2_with fail
  generalize (w.alloc (Obj.cells #[.int .i64 s, .int .i64 f, .int .i64 c, .int .i64 g, .bool p, .bool m] 26)) = X at *
  refine RW.mono ?_
  rintro e w1 ⟨rfl, hw1⟩
  rw [hw1]
  clear hw1 w1 RW
  go_wp2_with fail
  refine CP.mono ?_
  rintro e w1 ⟨rfl, F1, b1⟩
  have T1 := headAt_below T0 b1
  have B1 := B0.trans (b1.mono (by omega))
  clear CP T0 B0 b1
  generalize hq : X.heap.size = q at *
  obtain ⟨t0, t1, t2, t3, t4, t5, tf⟩ := headAt_cells T1
  go_wp2_with fail
  refine (OB _ B1).mono ?_
  clear OB t0 t1 t2 t3 t4 t5 tf
  rintro e w2 ⟨rfl, b2⟩
  have HO : Hid _ := full_own (full_below F1 b2) (show w.heap.size ≤ q by omega) hm
  have HB : Hid _ := B1.trans (b2.mono B1.size)
  clear T1 F1 B1 b2
  go_wp2
  go_ret2
  exact ⟨_, rfl, HO, HB⟩

theorem put_out {w : World} {v vs : Value} {xs ys : List Int} (h : IntsAt w v xs) (hy : IntsAt w vs ys) (hl : xs.length ≤ 1048576) (hyl : ys.length ≤ 1048576) (ha : AllI ys) (d1 : rowOk xs = true) (i : Int) (hi : I64 i) (s f c g : Int) (p m : Bool)
    (hP : pOk s f c g p m ys = true) (n : Int) (hN : sz s = n) (hn : I64 n) (dc : cutOk xs.length i n = false) :
    Calls Try.prog 10 #[v, .int .i64 i, hv s f c g p m, vs] w fun e w' => ∃ v', e = .returned (.tuple #[v', .bool false]) ∧ Own w' w.heap.size v' xs ∧ Below w.heap.size w w' := by
  have hm : xs.length ≤ maxLen := by unfold maxLen; omega
  have B0 : Below w.heap.size w (w.alloc (hb s f c g p m)) := (Below.refl _ _).alloc (Nat.le_refl _) _
  have T0 := headAt_new w s f c g p m
  have s0 : w.heap.size + 1 ≤ (w.alloc (hb s f c g p m)).heap.size := by simp
  have RW := isRow_any (intsAt_below h B0)
  rw [d1] at RW
  have CP := copied_any (intsAt_below h B0) hl
  have OB : ∀ W, Below w.heap.size w W → _ := fun W hW => objectOk_any (intsAt_below hy hW) hyl ha s f c g p m
  rw [hP] at OB
  have SZ := sizeOf_any s
  rw [hN] at SZ
  clear hP hN
  go_enter Try.func10, Try.ntmps10
  go_wp2_with fail
  generalize (w.alloc (Obj.cells #[.int .i64 s, .int .i64 f, .int .i64 c, .int .i64 g, .bool p, .bool m] 26)) = X at *
  refine RW.mono ?_
  rintro e w1 ⟨rfl, hw1⟩
  rw [hw1]
  clear hw1 w1 RW
  go_wp2_with fail
  refine CP.mono ?_
  rintro e w1 ⟨rfl, F1, b1⟩
  have T1 := headAt_below T0 b1
  have B1 := B0.trans (b1.mono (by omega))
  clear CP T0 B0 b1
  generalize hq : X.heap.size = q at *
  obtain ⟨t0, t1, t2, t3, t4, t5, tf⟩ := headAt_cells T1
  go_wp2_with fail
  refine (OB _ B1).mono ?_
  clear OB t0 t1 t2 t3 t4 t5 tf
  rintro e w2 ⟨rfl, b2⟩
  have T2 := headAt_below T1 b2
  have HO : Hid _ := full_own (full_below F1 b2) (show w.heap.size ≤ q by omega) hm
  have HB : Hid _ := B1.trans (b2.mono B1.size)
  clear T1 F1 B1 b2
  obtain ⟨t0, t1, t2, t3, t4, t5, tf⟩ := headAt_cells T2
  clear tf T2
  go_wp2_with (go_at_call 17; refine (SZ _).mono ?_; rintro e w3 ⟨rfl, hw3⟩; rw [hw3]; clear hw3 w3)
  refine (cut_no (Nat.le_refl _) hm i n hi hn dc).mono ?_
  rintro e w3 ⟨rfl, hw3⟩
  rw [hw3]
  clear hw3 w3
  go_wp2
  go_ret2
  exact ⟨_, rfl, HO, HB⟩

theorem implPutObject (w : World) (v vs : Value) (xs ys : List Int) (i s f c g : Int) (p m : Bool) (h : IntsAt w v xs) (hy : IntsAt w vs ys) (hl : xs.length ≤ 1048576) (hyl : ys.length ≤ 1048576) (_ha : AllI xs) (hya : AllI ys) (hi : I64 i) (_hs : I64 s) (_hf : I64 f) (_hc : I64 c) (_hg : I64 g) :
    Calls Try.prog 10 #[v, .int .i64 i, hv s f c g p m, vs] w fun e w' => ∃ v', e = .returned (.tuple #[v', .bool (putOk xs i s f c g p m ys)]) ∧ Own w' w.heap.size v' (putRow xs i s f c g p m ys) ∧ Below w.heap.size w w' := by
  cases d1 : rowOk xs
  · have eo : putOk xs i s f c g p m ys = false := by simp [putOk, d1]
    have ew : putRow xs i s f c g p m ys = [] := by simp [putRow, eo, d1]
    rw [eo, ew]
    have B0 : Below w.heap.size w (w.alloc (hb s f c g p m)) := (Below.refl _ _).alloc (Nat.le_refl _) _
    have RW := isRow_any (intsAt_below h B0)
    rw [d1] at RW
    clear eo ew
    go_enter Try.func10, Try.ntmps10
    go_wp2_with fail
    refine RW.mono ?_
    rintro e w1 ⟨rfl, hw1⟩
    rw [hw1]
    clear hw1 w1 RW
    go_wp2
    go_ret2
    exact ⟨_, rfl, own_nil _ _, B0⟩
  · have by1 := putOk_by (xs := xs) (ys := ys) (i := i) (s := s) (f := f) (c := c) (g := g) (p := p) (m := m) d1
    cases hP : pOk s f c g p m ys
    · rw [hP, Bool.false_and] at by1
      have ew : putRow xs i s f c g p m ys = xs := by simp [putRow, by1, d1]
      rw [by1, ew]
      exact put_no h hy hl hyl hya d1 i s f c g p m hP
    · rw [hP, Bool.true_and] at by1
      have hp : hok s f c g p m = true ∧ m = false ∧ ¬ f = 6 ∧ ¬ f = 7 ∧ (ys.length : Int) = s := by
        by_cases hh : hok s f c g p m = true ∧ m = false ∧ ¬ f = 6 ∧ ¬ f = 7 ∧ (ys.length : Int) = s
        · exact hh
        · rw [pOk_false hh] at hP; cases hP
      obtain ⟨h1, _, _, _, h5⟩ := hp
      obtain ⟨s0, s1, _⟩ := hok_true h1
      have hz := sz_bounds s0 s1
      cases dc : cutOk xs.length i (sz s)
      · rw [dc] at by1
        have ew : putRow xs i s f c g p m ys = xs := by simp [putRow, by1, d1]
        rw [by1, ew]
        exact put_out h hy hl hyl hya d1 i hi s f c g p m hP (sz s) rfl ⟨by omega, by omega⟩ dc
      · rw [dc] at by1
        have hc := cutOk_true dc
        obtain ⟨k, rfl⟩ := Int.eq_ofNat_of_zero_le hc.1
        have ew : putRow xs k s f c g p m ys = put xs k (pk s f c g p m) ys ys.length (sz s).toNat := by
          unfold putRow
          rw [if_pos by1, Int.toNat_natCast]
        rw [by1, ew]
        exact put_yes h hy hl hyl hya d1 k s f c g p m hP (sz s).toNat (by omega) (by omega) (by omega) (by omega) h1
end Go.Proofs.Ytdogibjgogcdkab.walks
