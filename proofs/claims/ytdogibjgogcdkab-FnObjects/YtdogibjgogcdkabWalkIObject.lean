/-
  What the program's ObjectAt answers.
  Made from the template WalkIObject.
-/
import Derived.Test.YtdogibjgogcdkabWalkIObjA
import Derived.Test.YtdogibjgogcdkabObjS2
namespace Go.Proofs.Ytdogibjgogcdkab.walks
open Go.RowKit rows heads words
set_option maxRecDepth 100000

set_option maxHeartbeats 8000000 in
theorem obj_yes {w : World} {a : Option Addr} {cap : Nat} {xs ys : List Int} {i : Int} {s f c g : Int} {p m : Bool} {b o N n : Nat}
    (C : ∀ W, Below w.heap.size w W → Calls Try.prog 67 #[.slice a xs.length cap, .int .i64 i] W fun e w' => e = .returned (.tuple #[cv s f c g p m (.slice (some ⟨b, o, none⟩) N N), .bool true]) ∧ Below W.heap.size W w')
    (h6 : ¬ f = 6) (hn : (if f = 7 then 1 else s) = (n : Int)) (hle : 1 + n ≤ N) (hN : N ≤ 1048576) (hys : ys.length = n)
    (IN : ∀ W, Below w.heap.size w W → IntsAt W (piece (some ⟨b, o, none⟩) 1 n) ys) :
    Calls Try.prog 12 #[.slice a xs.length cap, .int .i64 i] w fun e w' => ∃ v', e = .returned (.tuple #[hv s f c g p m, v', .bool true]) ∧ Own w' w.heap.size v' ys ∧ Below w.heap.size w w' := by
  have B0 : Below w.heap.size w (w.alloc (hb 0 0 0 0 false false)) := (Below.refl _ _).alloc (Nat.le_refl _) _
  have T0 := headAt_new w 0 0 0 0 false false
  have s0 : w.heap.size + 1 ≤ (w.alloc (hb 0 0 0 0 false false)).heap.size := by simp
  have C := C _ B0
  have h6' : (f == 6) = false := by simpa using h6
  have SL : ∀ W, _ := fun W => slots_any s f c g p m b o N n W hN hn hle
  have CP : ∀ W, Below w.heap.size w W → _ := fun W hW => copied_any (IN W hW) (by omega)
  subst hys
  clear hn IN
  generalize piece (some ⟨b, o, none⟩) 1 ys.length = pc at *
  go_enter Try.func12, Try.ntmps12
  go_wp2_with fail
  generalize (w.alloc (Obj.cells #[.int .i64 0, .int .i64 0, .int .i64 0, .int .i64 0, .bool false, .bool false] 26)) = X at *
  refine C.mono ?_
  rintro e w1 ⟨rfl, b1⟩
  have s1 := b1.size
  have M1 := chAt_alloc (chAt_new w1 s f c g p m (.slice (some ⟨b, o, none⟩) N N)) (cb s f c g p m (.slice (some ⟨b, o, none⟩) N N))
  have T1 := headAt_alloc (headAt_alloc (headAt_below T0 b1) (cb s f c g p m (.slice (some ⟨b, o, none⟩) N N))) (cb s f c g p m (.slice (some ⟨b, o, none⟩) N N))
  have B1 := ((B0.trans (b1.mono (by omega))).alloc (by omega) (cb s f c g p m (.slice (some ⟨b, o, none⟩) N N))).alloc (by simp; omega) (cb s f c g p m (.slice (some ⟨b, o, none⟩) N N))
  have ne : w.heap.size < w1.heap.size := by omega
  clear b1 C T0 B0
  go_wp2_with fail
  refine (isFree_any _ _ _ _ _ _ _ _).mono ?_
  rintro e Y ⟨rfl, hY⟩
  rw [← hY] at M1 T1 B1
  clear hY
  generalize w1.heap.size = q at *
  have M : ChAt Y.drew q s f c g p m (.slice (some ⟨b, o, none⟩) N N) := M1
  have T : HeadAt Y.drew w.heap.size 0 0 0 0 false false := T1
  have B : Below w.heap.size w Y.drew := B1.drew
  have sB := B.size
  obtain ⟨m0, m1, m2, m3, m4, m5, m6, mf⟩ := chAt_cells M1
  clear M1 T1 B1 mf
  have HM : Hid _ := M
  have HT : Hid _ := T
  have HB : Hid _ := B
  clear M T B
  go_wp2_with fail
  go_region_law (first
    | (go_simp; go_at_call 69; refine (SL _).mono ?_; clear SL; rintro e x1 ⟨rfl, b1⟩; have z1 := b1.size; have M1 := chAt_below HM.out b1; have HT1 : Hid _ := headAt_below HT.out b1; have HB1 : Hid _ := HB.out.trans (b1.mono sB); have HM1 : Hid _ := M1; obtain ⟨u0, u1, u2, u3, u4, u5, u6, uf⟩ := chAt_cells M1; clear b1 M1 uf)
    | (go_simp; go_at_call 62; refine (CP _ HB1.out).mono ?_; clear CP; rintro e x2 ⟨rfl, F2, b2⟩; have z2 := lt_of_block F2; have M2 := chAt_below HM1.out b2; have T2 := headAt_below HT1.out b2; have HB2 : Hid _ := HB1.out.trans (b2.mono (by omega)); have HT2 : Hid _ := T2; have HF2 : Hid _ := F2; obtain ⟨k0, k1, k2, k3, k4, k5, k6, kf⟩ := chAt_cells M2; obtain ⟨r0, r1, r2, r3, r4, r5, rf⟩ := headAt_cells T2; have f0 := rf 0; have f1 := rf 1; have f2 := rf 2; have f3 := rf 3; have f4 := rf 4; have f5 := rf 5; clear b2 M2 T2 F2 kf rf))
  all_goals go_wp2
  all_goals exact bodyPost_ret (res_head_two (v := .slice (some ⟨x1.heap.size, 0, none⟩) ys.length ys.length) (u := .bool true) rfl (by simp [Act.put]) (by simp [Act.put]) (by simp [Act.put]) (six_set HT2.out s f c g p m)) rfl ⟨_, rfl, own_base (own_six (full_own HF2.out (show w.heap.size + 1 ≤ x1.heap.size by have := lt_of_block HT1.out; omega) (show ys.length ≤ maxLen by unfold maxLen; omega)) (Nat.lt_succ_self _) s f c g p m) (Nat.le_succ _), six_below HB2.out (Nat.le_refl _) s f c g p m⟩

theorem implObjectAt (w : World) (v : Value) (xs : List Int) (i : Int) (h : IntsAt w v xs) (hl : xs.length ≤ 1048576) (ha : AllI xs) (hi : I64 i) :
    Calls Try.prog 12 #[v, .int .i64 i] w fun e w' => ∃ v', e = .returned (.tuple #[hw (oN xs i), v', .bool (objOk xs i)]) ∧ Own w' w.heap.size v' (objWords xs i) ∧ Below w.heap.size w w' := by
  have h' := h
  obtain ⟨a, cap, rfl, hlc, hcm, hnil, hc⟩ := h
  cases d : okAt xs i
  · have ec : chunkAt xs i = 0 := by unfold chunkAt; rw [d]; rfl
    have eo : objOk xs i = false := by unfold objOk; rw [ec]; simp
    have en : oN xs i = -1 := by simp [oN, eo]
    have ew : objWords xs i = [] := by simp [objWords, eo]
    rw [eo, en, ew, hw_none]
    exact obj_none (fun W hW => chunkOf_out (intsAt_below h' hW) hl i hi d)
  · have d' := d
    simp only [okAt, Bool.and_eq_true] at d'
    have hk := atOk_true d'.2
    obtain ⟨k, rfl⟩ := Int.eq_ofNat_of_zero_le hk.1
    have hk : k < xs.length := by omega
    have ec : chunkAt xs k = chunk xs k := chunkAt_in d
    obtain ⟨b, off, rfl, hb, hcc⟩ := hc (by omega)
    have C := fun W (hW : Below w.heap.size w W) => chunkOf_in (intsAt_below h' hW) hl ha k d
    unfold chRes at C
    by_cases e0 : chunk xs k = 0
    · have eo : objOk xs k = false := by unfold objOk; rw [ec, e0]; simp
      have en : oN xs k = -1 := by simp [oN, eo]
      have ew : objWords xs k = [] := by simp [objWords, eo]
      rw [eo, en, ew, hw_none]
      rw [if_pos e0] at C
      exact obj_none C
    · rw [if_neg e0] at C
      have cb2 := chunk_bounds xs k
      have cn := chunk_nat xs k
      have hp : piece (some ⟨b, off, none⟩) k (chunk xs k).toNat = .slice (some ⟨b, off + k, none⟩) (chunk xs k).toNat (chunk xs k).toNat := piece_at b off k _ (by omega)
      rw [hp] at C
      by_cases e6 : uF (xs.getD k 0) = 6
      · have eo : objOk xs k = false := by
          unfold objOk
          rw [Int.toNat_natCast, decide_eq_false (show ¬ uF (xs.getD k 0) ≠ 6 from fun h => h e6)]
          simp
        have en : oN xs k = -1 := by simp [oN, eo]
        have ew : objWords xs k = [] := by simp [objWords, eo]
        rw [eo, en, ew, hw_none]
        rw [e6] at C
        exact obj_free C
      · have eo : objOk xs k = true := by
          unfold objOk
          rw [Int.toNat_natCast, decide_eq_true (show uF (xs.getD k 0) ≠ 6 from e6), decide_eq_true (show chunkAt xs k ≠ 0 by rw [ec]; exact e0)]
          rfl
        have en : oN xs k = xs.getD k 0 := by unfold oN; rw [if_pos eo, Int.toNat_natCast]
        have ew : objWords xs k = (xs.drop (k + 1)).take (cnt (xs.getD k 0)).toNat := by unfold objWords; rw [if_pos eo, Int.toNat_natCast]
        rw [eo, en, ew]
        have hco := chunk_obj e0 e6
        obtain ⟨b1, b2⟩ := uS_bounds (xs.getD k 0)
        have hz := sz_bounds b1 b2
        have hcn : 0 ≤ cnt (xs.getD k 0) ∧ 1 + cnt (xs.getD k 0) ≤ chunk xs k := by
          unfold cnt
          split <;> omega
        have PI := fun W (hW : Below w.heap.size w W) => piece_is (intsAt_below h' hW) hl k (chunk xs k).toNat (by omega)
        rw [hp] at PI
        have el : ((xs.drop k).take (chunk xs k).toNat).length = (chunk xs k).toNat := by simp; omega
        have ed : ((xs.drop (k + 1)).take (cnt (xs.getD k 0)).toNat) = (((xs.drop k).take (chunk xs k).toNat).drop 1).take (cnt (xs.getD k 0)).toNat := by
          rw [List.drop_take, List.drop_drop, List.take_take]
          congr 1
          omega
        refine obj_yes (n := (cnt (xs.getD k 0)).toNat) C e6 ?_ (by omega) (by omega) (by rw [List.length_take, List.length_drop]; omega) (fun W hW => ?_)
        · rw [Int.toNat_of_nonneg hcn.1]; rfl
        · have P1 := PI W hW
          rw [ed]
          refine piece_is (cap := (chunk xs k).toNat) ?_ (by omega) 1 _ (by omega)
          rw [el]
          exact P1
end Go.Proofs.Ytdogibjgogcdkab.walks
