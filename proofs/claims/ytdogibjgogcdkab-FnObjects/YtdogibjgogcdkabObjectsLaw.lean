/-
  The walk of the law FnObjects, given what the program's ChunkAt, ObjectAt and PutObject answer.
  Made from the template ObjectsLaw.
-/
import Derived.Test.YtdogibjgogcdkabObjsD
import Derived.Test.YtdogibjgogcdkabDrawPut
import Derived.Test.YtdogibjgogcdkabLike
import Derived.Test.YtdogibjgogcdkabOwnIn
namespace Go.Proofs.Ytdogibjgogcdkab.draw
open Go.RowKit rows heads words walks
set_option maxRecDepth 100000

theorem putRow_len (xs ys : List Int) (i s f c g : Int) (p m : Bool) : (putRow xs i s f c g p m ys).length ≤ xs.length := by
  cases e : putOk xs i s f c g p m ys
  · unfold putRow
    rw [e]
    simp only [Bool.false_eq_true, if_false]
    split <;> simp
  · obtain ⟨_, _, _, _, h, _⟩ := put_told e
    omega
theorem objWords_len (xs : List Int) (i : Int) : (objWords xs i).length ≤ xs.length := by
  unfold objWords
  split
  · simp; omega
  · simp

theorem allI_putRow {xs ys : List Int} (hx : AllI xs) (hy : AllI ys) (i s f c g : Int) (p m : Bool) : AllI (putRow xs i s f c g p m ys) := by
  unfold putRow
  split
  · rename_i h
    simp only [putOk, Bool.and_eq_true] at h
    have e1 := h.1.2.1.1.1.1.1
    unfold put
    refine allI_append (allI_append (allI_take hx _) ?_) (allI_drop hx _)
    exact allI_append (allI_one (pk_i64 e1)) (allI_append (allI_take hy _) (allI_replicate _ ⟨by decide, by decide⟩))
  · split
    · exact hx
    · exact allI_nil

set_option maxRecDepth 100000 in
set_option maxHeartbeats 16000000 in
theorem objectsLaw
    (CHUNK : ∀ (w : World) (v : Value) (xs : List Int) (i : Int), IntsAt w v xs → xs.length ≤ 1048576 → AllI xs → I64 i → Calls Try.prog 16 #[v, .int .i64 i] w fun e w' => e = .returned (.int .i64 (chunkAt xs i)) ∧ Below w.heap.size w w')
    (OBJ : ∀ (w : World) (v : Value) (xs : List Int) (i : Int), IntsAt w v xs → xs.length ≤ 1048576 → AllI xs → I64 i → Calls Try.prog 12 #[v, .int .i64 i] w fun e w' => ∃ v', e = .returned (.tuple #[hw (oN xs i), v', .bool (objOk xs i)]) ∧ Own w' w.heap.size v' (objWords xs i) ∧ Below w.heap.size w w')
    (PUT : ∀ (w : World) (v vs : Value) (xs ys : List Int) (i s f c g : Int) (p m : Bool), IntsAt w v xs → IntsAt w vs ys → xs.length ≤ 1048576 → ys.length ≤ 1048576 → AllI xs → AllI ys → I64 i → I64 s → I64 f → I64 c → I64 g → Calls Try.prog 10 #[v, .int .i64 i, hv s f c g p m, vs] w fun e w' => ∃ v', e = .returned (.tuple #[v', .bool (putOk xs i s f c g p m ys)]) ∧ Own w' w.heap.size v' (putRow xs i s f c g p m ys) ∧ Below w.heap.size w w')
    (a0 : Option Addr) (len0 cap0 : Nat) (z0 : List Int) (w : World) (w0 : IsRow .u8 w a0 len0 cap0 z0) :
    Calls Try.prog 3 #[.slice a0 len0 cap0] w fun e w' => e = .returned (.bool true) ∧ Below w.heap.size w w' := by
  have hl : 4096 < len0 ∨ len0 ≤ 4096 := by omega
  rcases hl with hl | hl
  · have hl' : (4096 : Int) < (len0 : Int) := by omega
    clear w0
    go_enter Try.func3, Try.ntmps3
    go_wp2
    go_ret
    exact ⟨rfl, Below.refl _ _⟩
  · have hl' : ¬ (4096 : Int) < (len0 : Int) := by omega
    go_enter Try.func3, Try.ntmps3
    go_wp2_with (go_at_call 8; go_in)
    refine (drawPutObject_any w0 (Below.refl _ _) hl).mono ?_
    rintro e w1 ⟨vr, vs, xs, ys, i, s, f, c, g, p, m, hx, hyl, ha, hya, hi, hsm, rfl, OR, OS, B1⟩
    obtain ⟨sm1, sm2, sm3, sm4, sm5, sm6, sm7, sm8⟩ := hsm
    have hx' : xs.length ≤ 1048576 := by omega
    have hy' : ys.length ≤ 1048576 := by omega
    have T1 := headAt_new w1 s f c g p m
    have B2 := B1.alloc B1.size (hb s f c g p m)
    have b1 : Below w1.heap.size w1 (w1.alloc (hb s f c g p m)) := (Below.refl _ _).alloc (Nat.le_refl _) _
    have OR := own_below OR b1
    have OS := own_below OS b1
    clear b1 B1
    have PL := putRow_len xs ys i s f c g p m
    have PUT1 : ∀ (W : World) (v v2 : Value), IntsAt W v xs → IntsAt W v2 ys → _ := fun W v v2 h1 h2 => PUT W v v2 xs ys i s f c g p m h1 h2 hx' hy' ha hya hi ⟨by omega, by omega⟩ ⟨by omega, by omega⟩ ⟨by omega, by omega⟩ ⟨by omega, by omega⟩
    have SPUT1 : ∀ (W : World) (v v2 : Value), IntsAt W v xs → IntsAt W v2 ys → _ := fun W v v2 h1 h2 => sPutObject_any (w := W) (v := v) (vs := v2) h1 h2 hx' i hi s f c g p m
    have PT := put_told (xs := xs) (ys := ys) (i := i) (s := s) (f := f) (c := c) (g := g) (p := p) (m := m)
    have PN : putOk xs i s f c g p m ys = false → putRow xs i s f c g p m ys = xs := fun e => by
      unfold putRow
      rw [e]
      simp only [Bool.false_eq_true, if_false]
      rw [if_pos (by simp [rowOk]; omega)]
    have PA := allI_putRow ha hya i s f c g p m
    generalize putOk xs i s f c g p m ys = ok at *
    generalize putRow xs i s f c g p m ys = zs at *
    have HPT : Hid _ := PT
    have HPN : Hid _ := PN
    clear PT PN PUT
    obtain ⟨t0, t1, t2, t3, t4, t5, tf⟩ := headAt_cells T1
    have hz' : zs.length ≤ 1048576 := by omega
    go_wp2_with fail
    generalize (w1.alloc (Obj.cells #[.int .i64 s, .int .i64 f, .int .i64 c, .int .i64 g, .bool p, .bool m] 26)) = X at *
    generalize w1.heap.size = hq at *
    refine (PUT1 _ _ _ (own_ints OR) (own_ints OS)).mono ?_
    rintro e w2 ⟨vz, rfl, OZ, b2⟩
    have OR := own_below OR b2
    have OS := own_below OS b2
    have T2 := headAt_below T1 b2
    have B3 := B2.trans (b2.mono B2.size)
    clear b2 B2 T1 t0 t1 t2 t3 t4 t5 tf PUT1
    go_wp2_with fail
    refine (drawObjectAt_any w0 B3 hl).mono ?_
    rintro e w3 ⟨vq, qs, j, hqs, hqa, hj, rfl, OQ, b3⟩
    have hq' : qs.length ≤ 1048576 := by omega
    have OR := own_below OR b3
    have OS := own_below OS b3
    have OZ := own_below OZ b3
    have T3 := headAt_below T2 b3
    have B4 := B3.trans (b3.mono B3.size)
    clear b3 B3 T2
    go_wp2_with fail
    refine (OBJ w3 vq qs j (own_ints OQ) hq' hqa hj).mono ?_
    rintro e w4 ⟨vo, rfl, OO, b4⟩
    have OR := own_below OR b4
    have OS := own_below OS b4
    have OZ := own_below OZ b4
    have OQ := own_below OQ b4
    have T4 := headAt_below T3 b4
    have B5 := B4.trans (b4.mono B4.size)
    clear b4 B4 T3
    have SOBJ : ∀ (W : World) (v : Value), IntsAt W v qs → _ := fun W v h => sObjectAt_any (w := W) (v := v) h hq' j
    have CHK : ∀ (W : World) (v : Value), IntsAt W v qs → _ := fun W v h => CHUNK W v qs j h hq' hqa hj
    have OSZ := obj_size (xs := qs) (i := j)
    have OWL := objWords_len qs j
    have how : (objWords qs j).length ≤ 1048576 := by omega
    unfold hw at SOBJ ⊢
    generalize uS (oN qs j) = s' at *
    generalize uF (oN qs j) = f' at *
    generalize uC (oN qs j) = c' at *
    generalize uH (oN qs j) = g' at *
    generalize uP (oN qs j) = p' at *
    generalize uM (oN qs j) = m' at *
    generalize objWords qs j = os at *
    generalize objOk qs j = there at *
    generalize chunkAt qs j = ca at *
    have HSZ : Hid _ := OSZ
    clear OSZ CHUNK OWL
    have H5 := headAt_new w4 s' f' c' g' p' m'
    have b5 : Below w4.heap.size w4 (w4.alloc (hb s' f' c' g' p' m')) := (Below.refl _ _).alloc (Nat.le_refl _) _
    have OR := own_below OR b5
    have OS := own_below OS b5
    have OZ := own_below OZ b5
    have OQ := own_below OQ b5
    have OO := own_below OO b5
    have T5 := headAt_below T4 b5
    have B6 := B5.trans (b5.mono B5.size)
    clear b5 B5 T4
    obtain ⟨t0, t1, t2, t3, t4, t5, tf⟩ := headAt_cells T5
    go_wp2_with fail
    generalize (w4.alloc (Obj.cells #[.int .i64 s', .int .i64 f', .int .i64 c', .int .i64 g', .bool p', .bool m'] 26)) = X5 at *
    generalize w4.heap.size = hh at *
    refine (SPUT1 _ _ _ (own_ints OR) (own_ints OS)).mono ?_
    rintro e w6 ⟨vy, rfl, OY, b6⟩
    have OR := own_below OR b6
    have OS := own_below OS b6
    have OZ := own_below OZ b6
    have OQ := own_below OQ b6
    have OO := own_below OO b6
    have T6 := headAt_below T5 b6
    have H6 := headAt_below H5 b6
    have B7 := B6.trans (b6.mono B6.size)
    clear b6 B6 T5 H5 t0 t1 t2 t3 t4 t5 tf SPUT1
    go_wp2_with fail
    refine (likeInts_same (own_ints OZ) (own_ints OY) hz').mono ?_
    rintro e w7 ⟨rfl, q7, rfl⟩
    have OR := own_drewN (n := q7) OR
    have OS := own_drewN (n := q7) OS
    have OZ := own_drewN (n := q7) OZ
    have OQ := own_drewN (n := q7) OQ
    have OO := own_drewN (n := q7) OO
    have T7 : HeadAt (w6.drewN q7) hq s f c g p m := T6
    have H7 : HeadAt (w6.drewN q7) hh s' f' c' g' p' m' := H6
    have B8 := rows.below_drewN (n := q7) B7
    clear B7 T6 H6 OY
    generalize w6.drewN q7 = w7 at *
    go_wp2_with fail
    refine (SOBJ _ _ (own_ints OQ)).mono ?_
    rintro e w8 ⟨vp, rfl, OP, b8⟩
    have K8 := headAt_new w8 s' f' c' g' p' m'
    have b9 : Below w8.heap.size w8 (w8.alloc (hb s' f' c' g' p' m')) := (Below.refl _ _).alloc (Nat.le_refl _) _
    have OR := own_below (own_below OR b8) b9
    have OS := own_below (own_below OS b8) b9
    have OZ := own_below (own_below OZ b8) b9
    have OQ := own_below (own_below OQ b8) b9
    have OO := own_below (own_below OO b8) b9
    have OP := own_below OP b9
    have T8 := headAt_below (headAt_below T7 b8) b9
    have H8 := headAt_below (headAt_below H7 b8) b9
    have B9 := (B8.trans (b8.mono B8.size)).trans (b9.mono (Nat.le_trans B8.size b8.size))
    clear b8 b9 B8 T7 H7 SOBJ
    obtain ⟨t0, t1, t2, t3, t4, t5, tf⟩ := headAt_cells H8
    clear tf
    go_wp2_with fail
    generalize (w8.alloc (Obj.cells #[.int .i64 s', .int .i64 f', .int .i64 c', .int .i64 g', .bool p', .bool m'] 26)) = X9 at *
    generalize w8.heap.size = hk at *
    refine (likeInts_same (own_ints OO) (own_ints OP) how).mono ?_
    rintro e w10 ⟨rfl, q10, rfl⟩
    have OR : Own (X9.drewN q10) _ vr xs := OR
    have OS : Own (X9.drewN q10) _ vs ys := OS
    have OZ : Own (X9.drewN q10) _ vz zs := OZ
    have OQ : Own (X9.drewN q10) _ vq qs := OQ
    have T10 : HeadAt (X9.drewN q10) hq s f c g p m := T8
    have H10 : HeadAt (X9.drewN q10) hh s' f' c' g' p' m' := H8
    have B10 := rows.below_drewN (n := q10) B9
    clear B9 T8 H8 OO OP K8 t0 t1 t2 t3 t4 t5
    generalize X9.drewN q10 = Y at *
    have HOR : Hid _ := OR
    have HOS : Hid _ := OS
    have HOZ : Hid _ := OZ
    have HOQ : Hid _ := OQ
    have HT : Hid _ := T10
    have HH : Hid _ := H10
    have HB : Hid _ := B10
    obtain ⟨t0, t1, t2, t3, t4, t5, tf⟩ := headAt_cells H10
    clear tf OR OS OZ OQ T10 H10 B10
    cases ok
    · have ezs := HPN.out rfl
      subst ezs
      clear HPN HPT
      cases there
      case' false =>
        go_wp2_with fail
        go_quiet (fail)
        have HR1 : Hid (Own (Y.drewN nq) _ vr _) := HOR.out
        have HZ1 : Hid (Own (Y.drewN nq) _ vz _) := HOZ.out
        have HB1 : Hid _ := rows.below_drewN (n := nq) HB.out
        generalize Y.drewN nq = x1 at *
      case' true =>
        have esz := HSZ.out rfl
        subst esz
        go_wp2_with fail
        go_region_law (first
          | (go_simp; go_at_call 16; refine (CHK _ _ (own_ints (show Own Y.drew _ vq qs from HOQ.out))).mono ?_; clear CHK; rintro e x1 ⟨rfl, b1⟩; have HR1 : Hid _ := own_below (show Own Y.drew _ vr _ from HOR.out) b1; have HZ1 : Hid _ := own_below (show Own Y.drew _ vz _ from HOZ.out) b1; have HB1 : Hid _ := HB.out.drew.trans (b1.mono HB.out.size); have H1 := headAt_below (show HeadAt Y.drew hh s' f' c' g' p' m' from HH.out) b1; obtain ⟨u0, u1, u2, u3, u4, u5, uf⟩ := headAt_cells H1; clear b1 H1 uf)
          | (go_simp; go_at_call 17; refine (sizeOf_any _ _).mono ?_; rintro e x2 ⟨rfl, hx2⟩; rw [hx2]; clear hx2 x2))
      all_goals
        clear HOR HOS HOZ HOQ HT HH HB
        go_wp2_with fail
        refine (likeInts_same (own_ints HZ1.out) (own_ints HR1.out) hz').mono ?_
        rintro e x3 ⟨rfl, q3, rfl⟩
        have HB3 : Hid _ := rows.below_drewN (n := q3) HB1.out
        clear HB1 HR1 HZ1
        go_wp2
        go_ret
        exact ⟨rfl, HB3⟩
    · obtain ⟨k, rfl, kl, dr, zl, hO, hW, hWd, ksz, sz2, OUT⟩ := HPT.out rfl
      have OBJ1 : ∀ (W : World) (v : Value), IntsAt W v zs → _ := fun W v h => OBJ W v zs k h hz' PA hi
      rw [hO, hW, hWd] at OBJ1
      obtain ⟨N, hN⟩ := Int.eq_ofNat_of_zero_le (show 0 ≤ sz s by omega)
      have SZ := sizeOf_any s
      rw [hN] at SZ ksz sz2 OUT
      have HOUT : Hid _ := OUT
      clear HPN HPT OBJ hO hW hWd OUT hN
      cases there
      case' false =>
        go_wp2_with fail
        go_quiet (fail)
        have HR1 : Hid (Own (Y.drewN nq) _ vr _) := HOR.out
        have HS1 : Hid (Own (Y.drewN nq) _ vs _) := HOS.out
        have HZ1 : Hid (Own (Y.drewN nq) _ vz _) := HOZ.out
        have HT1 : Hid (HeadAt (Y.drewN nq) hq s f c g p m) := HT.out
        have HB1 : Hid _ := rows.below_drewN (n := nq) HB.out
        generalize Y.drewN nq = x1 at *
      case' true =>
        have esz := HSZ.out rfl
        subst esz
        go_wp2_with fail
        go_region_law (first
          | (go_simp; go_at_call 16; refine (CHK _ _ (own_ints (show Own Y.drew _ vq qs from HOQ.out))).mono ?_; clear CHK; rintro e x1 ⟨rfl, b1⟩; have HR1 : Hid _ := own_below (show Own Y.drew _ vr xs from HOR.out) b1; have HS1 : Hid _ := own_below (show Own Y.drew _ vs ys from HOS.out) b1; have HZ1 : Hid _ := own_below (show Own Y.drew _ vz zs from HOZ.out) b1; have HT1 : Hid _ := headAt_below (show HeadAt Y.drew hq s f c g p m from HT.out) b1; have HB1 : Hid _ := HB.out.drew.trans (b1.mono HB.out.size); have H1 := headAt_below (show HeadAt Y.drew hh s' f' c' g' p' m' from HH.out) b1; obtain ⟨u0, u1, u2, u3, u4, u5, uf⟩ := headAt_cells H1; clear b1 H1 uf)
          | (go_simp; go_at_call 17; refine (sizeOf_any _ _).mono ?_; rintro e x2 ⟨rfl, hx2⟩; rw [hx2]; clear hx2 x2))
      all_goals
        clear HOR HOS HOZ HOQ HT HH HB
        go_wp2_with fail
        refine (OBJ1 _ _ (own_ints HZ1.out)).mono ?_
        rintro e x2 ⟨vw, rfl, OW, b2⟩
        have K2 := headAt_new x2 s f c g p m
        have b3 : Below x2.heap.size x2 (x2.alloc (hb s f c g p m)) := (Below.refl _ _).alloc (Nat.le_refl _) _
        have OR := own_below (own_below HR1.out b2) b3
        have OS := own_below (own_below HS1.out b2) b3
        have OZ := own_below (own_below HZ1.out b2) b3
        have OW := own_below OW b3
        have T2 := headAt_below (headAt_below HT1.out b2) b3
        have B2 := (HB1.out.trans (b2.mono HB1.out.size)).trans (b3.mono (Nat.le_trans HB1.out.size b2.size))
        clear b2 b3 HR1 HS1 HZ1 HT1 HB1 OBJ1
        obtain ⟨ar, cr, rfl, _, mr, _, hcr⟩ := own_ints OR
        obtain ⟨az, cz, rfl, _, mz, _, hcz⟩ := own_ints OZ
        have HCR : Hid _ := hcr
        have HCZ : Hid _ := hcz
        have HIS : Hid _ := own_ints OS
        have HIW : Hid _ := own_ints OW
        have HBX : Hid _ := B2
        obtain ⟨t0, t1, t2, t3, t4, t5, tf⟩ := headAt_cells T2
        obtain ⟨k0, k1, k2, k3, k4, k5, kf⟩ := headAt_cells K2
        clear OR OZ OS OW B2 hcr hcz tf kf T2 K2
        rw [zl] at *
        go_wp2_with fail
        generalize (x2.alloc (Obj.cells #[.int .i64 s, .int .i64 f, .int .i64 c, .int .i64 g, .bool p, .bool m] 26)) = Z at *
        generalize x2.heap.size = hz at *
        go_loopw [22] (fun iv wr => ∃ n q : Nat, n ≤ xs.length ∧ iv = .int .i64 (n : Int) ∧ wr = Z.drewN q) (fun iv _ => xs.length - (intOf iv).toNat)
        case atStart => exact ⟨0, 0, Nat.zero_le _, rfl, rfl⟩
        case round =>
          obtain ⟨n, q, hn, rfl, rfl⟩ := hrel
          by_cases hlt : n < xs.length
          · obtain ⟨br, off, rfl, _, hcr⟩ := HCR.out (by omega)
            obtain ⟨bz, ofz, rfl, _, hcz⟩ := HCZ.out (by omega)
            have c0 := hcr n hlt
            have c1 := hcz n hlt
            clear hcr hcz HCR HCZ HIS HIW HBX
            by_cases n1 : n < k
            · have n1' : (n : Int) < (k : Int) := by omega
              have n1d : decide ((n : Int) < (k : Int)) = true := by simpa using n1
              rw [HOUT.out n (.inl n1')] at c1
              generalize xs.getD n 0 = z at *
              clear HOUT
              go_wp2
              go_quiet (fail)
              go_wp2
              exact ⟨⟨n + 1, q + nq, by omega, by go_num, rfl⟩, by simp [intOf]; omega⟩
            · have n1' : ¬ (n : Int) < (k : Int) := by omega
              have n1d : decide ((n : Int) < (k : Int)) = false := by simp; omega
              by_cases n2 : (k : Int) + (N : Int) ≤ (n : Int)
              · have n2d : decide ((k : Int) + (N : Int) ≤ (n : Int)) = true := by simpa using n2
                rw [HOUT.out n (.inr n2)] at c1
                generalize xs.getD n 0 = z at *
                clear HOUT
                go_wp2
                go_quiet ((go_at_call 17; exact (SZ _).mono fun _ _ ⟨he, hm⟩ => ⟨he, _, hm⟩))
                go_wp2
                exact ⟨⟨n + 1, q + nq, by omega, by go_num, rfl⟩, by simp [intOf]; omega⟩
              · have n2d : decide ((k : Int) + (N : Int) ≤ (n : Int)) = false := by simp; omega
                clear HOUT c0 c1
                go_wp2
                go_quiet ((go_at_call 17; exact (SZ _).mono fun _ _ ⟨he, hm⟩ => ⟨he, _, hm⟩))
                go_wp2
                exact ⟨⟨n + 1, q + nq, by omega, by go_num, rfl⟩, by simp [intOf]; omega⟩
          · have hlt' : ¬ (n : Int) < (xs.length : Int) := by omega
            clear HOUT HCR HCZ
            go_wp2_with fail
            refine (likeInts_same (intsAt_drewN HIW.out) (intsAt_drewN HIS.out) hy').mono ?_
            rintro e x5 ⟨rfl, q5, rfl⟩
            have HB2 : Hid _ := below_drewN (n := q + q5) HBX.out
            clear HBX HIS HIW
            go_wp2
            go_ret
            exact ⟨rfl, HB2⟩
end Go.Proofs.Ytdogibjgogcdkab.draw
