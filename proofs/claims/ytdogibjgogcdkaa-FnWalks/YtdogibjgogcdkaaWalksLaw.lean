/-
  The walk of the law FnWalks, given what the program's Walk and ChunkAt answer.
  Made from the template WalksLaw.
-/
import Derived.Test.YtdogibjgogcdkaaDrawWalk1
import Derived.Test.YtdogibjgogcdkaaLike
import Derived.Test.YtdogibjgogcdkaaOwnIn
namespace Go.Proofs.Ytdogibjgogcdkaa.draw
open Go.RowKit rows heads words walks

/-- What a walk that goes on has ahead of it. -/
theorem walkO_cons {xs : List Int} {k t : Nat} {p : Int} {l : List Int} (h : walkO xs k t = some (p :: l)) : p = k ∧ k < t ∧ chunk xs k ≠ 0 ∧ (k : Int) + chunk xs k ≤ t ∧ walkO xs (k + (chunk xs k).toNat) t = some l := by
  by_cases h1 : k < t
  · by_cases hb : chunk xs k = 0 ∨ (k : Int) + chunk xs k > t
    · rw [walkO_bad h1 hb] at h; cases h
    · rw [walkO_step h1 hb] at h
      obtain ⟨l', hl', e⟩ := Option.map_eq_some_iff.1 h
      injection e with e1 e2
      subst e1 e2
      exact ⟨rfl, h1, by omega, by omega, hl'⟩
  · rw [walkO_end h1] at h; cases h
theorem walkO_nil {xs : List Int} {k t : Nat} (h : walkO xs k t = some []) : ¬ k < t := by
  intro h1
  by_cases hb : chunk xs k = 0 ∨ (k : Int) + chunk xs k > t
  · rw [walkO_bad h1 hb] at h; cases h
  · rw [walkO_step h1 hb] at h
    obtain ⟨l', _, e⟩ := Option.map_eq_some_iff.1 h
    cases e
theorem chunkAt_bounds (xs : List Int) (i : Int) : chunkAt xs i = 0 ∨ (2 ≤ chunkAt xs i ∧ chunkAt xs i % 2 = 0 ∧ 0 ≤ i ∧ i < xs.length ∧ i + chunkAt xs i ≤ xs.length) := by
  unfold chunkAt
  split
  · rename_i h
    simp only [okAt, atOk, Bool.and_eq_true, decide_eq_true_eq] at h
    have := chunk_bounds xs i.toNat
    omega
  · exact .inl rfl
theorem walkOk_some {xs : List Int} {f t : Int} (h : walkOk xs f t = true) : rowOk xs = true ∧ 0 ≤ f ∧ f ≤ t ∧ t ≤ xs.length ∧ walkO xs f.toNat t.toNat = some (walked xs f t) := by
  unfold walkOk walked walkR at *
  split at h
  · rename_i hr
    rw [if_pos hr]
    simp only [rangeOk, Bool.and_eq_true, decide_eq_true_eq] at hr
    obtain ⟨l, hl⟩ := Option.isSome_iff_exists.1 h
    exact ⟨hr.1, hr.2.1, hr.2.2.1, hr.2.2.2, by rw [hl]; rfl⟩
  · cases h
theorem walked_none {xs : List Int} {f t : Int} (h : walkOk xs f t = false) : walked xs f t = [] := by
  unfold walkOk at h
  unfold walked
  rw [Option.isSome_eq_false_iff, Option.isNone_iff_eq_none] at h
  rw [h]; rfl

set_option maxRecDepth 100000 in
set_option maxHeartbeats 16000000 in
theorem walksLaw
    (CHUNK : ∀ (w : World) (v : Value) (xs : List Int) (i : Int), IntsAt w v xs → xs.length ≤ 1048576 → AllI xs → I64 i → Calls Try.prog 51 #[v, .int .i64 i] w fun e w' => e = .returned (.int .i64 (chunkAt xs i)) ∧ Below w.heap.size w w')
    (WALK : ∀ (w : World) (v : Value) (xs : List Int) (f : Int) (t : Int), IntsAt w v xs → xs.length ≤ 1048576 → AllI xs → I64 f → I64 t → Calls Try.prog 49 #[v, .int .i64 f, .int .i64 t] w fun e w' => ∃ v', e = .returned (.tuple #[v', .bool (walkOk xs f t)]) ∧ Own w' w.heap.size v' (walked xs f t) ∧ Below w.heap.size w w')
    (a0 : Option Addr) (len0 cap0 : Nat) (z0 : List Int) (w : World) (w0 : IsRow .u8 w a0 len0 cap0 z0) :
    Calls Try.prog 7 #[.slice a0 len0 cap0] w fun e w' => e = .returned (.bool true) ∧ Below w.heap.size w w' := by
  have hl : 4096 < len0 ∨ len0 ≤ 4096 := by omega
  rcases hl with hl | hl
  · have hl' : (4096 : Int) < (len0 : Int) := by omega
    clear w0
    go_enter Try.func7, Try.ntmps7
    go_wp2
    go_ret
    exact ⟨rfl, Below.refl _ _⟩
  · have hl' : ¬ (4096 : Int) < (len0 : Int) := by omega
    go_enter Try.func7, Try.ntmps7
    go_wp2_with (go_at_call 8; go_in)
    refine (drawWalk_any w0 (Below.refl _ _) hl).mono ?_
    rintro e w1 ⟨vr, xs, f, t, hx, ha, hf, ht, rfl, OR, B1⟩
    have hx' : xs.length ≤ 1048576 := by omega
    go_wp2_with fail
    refine (WALK w1 vr xs f t (own_ints OR) hx' ha hf ht).mono ?_
    rintro e w2 ⟨vl, rfl, OL, b2⟩
    have OR := own_below OR b2
    have B2 := B1.trans (b2.mono B1.size)
    clear b2 B1
    go_wp2_with fail
    refine (drawChunkAt_any w0 B2 hl).mono ?_
    rintro e w3 ⟨vq, qs, i, hq, hqa, hi, rfl, OQ, b3⟩
    have hq' : qs.length ≤ 1048576 := by omega
    have OR := own_below OR b3
    have OL := own_below OL b3
    have B3 := B2.trans (b3.mono B2.size)
    clear b3 B2
    go_wp2_with fail
    refine (CHUNK w3 vq qs i (own_ints OQ) hq' hqa hi).mono ?_
    rintro e w4 ⟨rfl, b4⟩
    have OR := own_below OR b4
    have OL := own_below OL b4
    have OQ := own_below OQ b4
    have B4 := B3.trans (b4.mono B3.size)
    clear b4 B3
    go_wp2_with fail
    refine (sWalk_any (own_ints OR) hx' f t).mono ?_
    rintro e w5 ⟨vx, rfl, OX, b5⟩
    have OR := own_below OR b5
    have OL := own_below OL b5
    have OQ := own_below OQ b5
    have B5 := B4.trans (b5.mono B4.size)
    clear b5 B4
    have hwl : (walked xs f t).length ≤ 1048576 := Nat.le_trans (walked_length xs f t).1 (by decide)
    go_wp2_with fail
    refine (likeInts_same (own_ints OL) (own_ints OX) hwl).mono ?_
    rintro e w6 ⟨rfl, q6, rfl⟩
    have OR := own_drewN (n := q6) OR
    have OL := own_drewN (n := q6) OL
    have OQ := own_drewN (n := q6) OQ
    have B6 := rows.below_drewN (n := q6) B5
    clear B5 OX
    go_wp2_with fail
    refine (sChunkAt_any (own_ints OQ) hq' i).mono ?_
    rintro e w7 ⟨rfl, b7⟩
    have OR := own_below OR b7
    have OL := own_below OL b7
    have B7 := B6.trans (b7.mono B6.size)
    obtain ⟨aq, capq, rfl, _, _, _, _⟩ := own_ints OQ
    clear b7 B6 OQ
    have hcb := chunkAt_bounds qs i
    generalize chunkAt qs i = c at *
    obtain ⟨al, capl, rfl, hlc, hcm, _, _⟩ := own_ints OL
    have TEST : (c = 0 ∨ (2 ≤ c ∧ c % 2 = 0 ∧ 0 ≤ i ∧ i < qs.length ∧ i + c ≤ qs.length)) := hcb
    clear hcb
    cases dk : walkOk xs f t
    · have en := walked_none dk
      rw [en] at *
      rcases TEST with rfl | ⟨t1, t2, t3, t4, t5⟩
      · go_wp2
        go_ret
        exact ⟨rfl, B7⟩
      · have t6 : (c != 0) = true := by simp; omega
        have t7 : ¬ c < 2 := by omega
        have t8 : ¬ i + c > qs.length := by omega
        go_wp2
        go_ret
        exact ⟨rfl, B7⟩
    · obtain ⟨d1, f0, ft, tl, hw⟩ := walkOk_some dk
      obtain ⟨F, rfl⟩ := Int.eq_ofNat_of_zero_le f0
      obtain ⟨T, rfl⟩ := Int.eq_ofNat_of_zero_le (show 0 ≤ t by omega)
      simp only [Int.toNat_natCast] at hw
      generalize walked xs F T = ls at *
      rcases TEST with rfl | ⟨t1, t2, t3, t4, t5⟩
      · go_wp2_with fail
        go_loopw [13, 14] (fun pv iv wr => ∃ (j p : Nat), j ≤ ls.length ∧ iv = .int .i64 (j : Int) ∧ pv = .int .i64 (p : Int) ∧ p ≤ T ∧ walkO xs p T = some (ls.drop j) ∧ Own wr w.heap.size vr xs ∧ Own wr w1.heap.size (.slice al ls.length capl) ls ∧ Below w.heap.size w wr) (fun _ iv _ => ls.length - (intOf iv).toNat)
        case atStart => exact ⟨0, F, by omega, rfl, rfl, by omega, by simpa using hw, OR, OL, B7⟩
        case round =>
          obtain ⟨j, p, hj, rfl, rfl, hp, hwp, Or, Ol, Br⟩ := hrel
          by_cases hlt : j < ls.length
          · have hlt' : (j : Int) < (ls.length : Int) := by omega
            have ed : ls.drop j = ls.getD j 0 :: ls.drop (j + 1) := by
              rw [List.drop_eq_getElem_cons hlt, List.getD_eq_getElem?_getD, List.getElem?_eq_getElem hlt]; rfl
            rw [ed] at hwp
            obtain ⟨ep, kp, k0, kt, hnext⟩ := walkO_cons hwp
            obtain ⟨al', capl', e', _, _, _, hcc⟩ := own_ints Ol
            injection e' with e1 e2 e3
            subst e1 e3
            obtain ⟨b, off, rfl, _, hcc⟩ := hcc (by omega)
            have c0 := hcc j hlt
            rw [ep] at c0
            have ec : chunkAt xs p = chunk xs p := by
              unfold chunkAt
              rw [if_pos (by simp only [okAt, d1, atOk, Bool.true_and, decide_eq_true_eq]; omega), Int.toNat_natCast]
            have hcb := chunk_bounds xs p
            obtain ⟨n, hn⟩ := Int.eq_ofNat_of_zero_le (show 0 ≤ chunk xs p by omega)
            rw [hn] at hcb k0 kt hnext ec
            rw [Int.toNat_natCast] at hnext
            have n2 : ¬ (n : Int) < 2 := by omega
            have HNX : Hid _ := hnext
            clear hcc ed hwp ep hnext hcb
            go_wp2_with fail
            refine (CHUNK wr vr xs p (own_ints Or) hx' ha ⟨by omega, by omega⟩).mono ?_
            rintro e w8 ⟨rfl, b8⟩
            rw [ec]
            have Or := own_below Or b8
            have Ol := own_below Ol b8
            have Br := Br.trans (b8.mono Br.size)
            clear b8
            go_wp2_with fail
            refine (CHUNK w8 vr xs p (own_ints Or) hx' ha ⟨by omega, by omega⟩).mono ?_
            rintro e w9 ⟨rfl, b9⟩
            rw [ec]
            have Or := own_below Or b9
            have Ol := own_below Ol b9
            have Br := Br.trans (b9.mono Br.size)
            clear b9 ec
            go_wp2
            exact ⟨⟨j + 1, p + n, by omega, by go_num, by go_num, by omega, HNX.out, Or, Ol, Br⟩, by simp [intOf]; omega⟩
          · have hlt' : ¬ (j : Int) < (ls.length : Int) := by omega
            rw [List.drop_eq_nil_of_le (by omega)] at hwp
            have hend := walkO_nil hwp
            have epT : p = T := by omega
            subst epT
            go_wp2
            go_ret
            exact ⟨by simp, Br⟩
      · have t6 : (c != 0) = true := by simp; omega
        have t7 : ¬ c < 2 := by omega
        have t8 : ¬ i + c > qs.length := by omega
        go_wp2_with fail
        go_loopw [13, 14] (fun pv iv wr => ∃ (j p : Nat), j ≤ ls.length ∧ iv = .int .i64 (j : Int) ∧ pv = .int .i64 (p : Int) ∧ p ≤ T ∧ walkO xs p T = some (ls.drop j) ∧ Own wr w.heap.size vr xs ∧ Own wr w1.heap.size (.slice al ls.length capl) ls ∧ Below w.heap.size w wr) (fun _ iv _ => ls.length - (intOf iv).toNat)
        case atStart => exact ⟨0, F, by omega, rfl, rfl, by omega, by simpa using hw, OR, OL, B7⟩
        case round =>
          obtain ⟨j, p, hj, rfl, rfl, hp, hwp, Or, Ol, Br⟩ := hrel
          by_cases hlt : j < ls.length
          · have hlt' : (j : Int) < (ls.length : Int) := by omega
            have ed : ls.drop j = ls.getD j 0 :: ls.drop (j + 1) := by
              rw [List.drop_eq_getElem_cons hlt, List.getD_eq_getElem?_getD, List.getElem?_eq_getElem hlt]; rfl
            rw [ed] at hwp
            obtain ⟨ep, kp, k0, kt, hnext⟩ := walkO_cons hwp
            obtain ⟨al', capl', e', _, _, _, hcc⟩ := own_ints Ol
            injection e' with e1 e2 e3
            subst e1 e3
            obtain ⟨b, off, rfl, _, hcc⟩ := hcc (by omega)
            have c0 := hcc j hlt
            rw [ep] at c0
            have ec : chunkAt xs p = chunk xs p := by
              unfold chunkAt
              rw [if_pos (by simp only [okAt, d1, atOk, Bool.true_and, decide_eq_true_eq]; omega), Int.toNat_natCast]
            have hcb := chunk_bounds xs p
            obtain ⟨n, hn⟩ := Int.eq_ofNat_of_zero_le (show 0 ≤ chunk xs p by omega)
            rw [hn] at hcb k0 kt hnext ec
            rw [Int.toNat_natCast] at hnext
            have n2 : ¬ (n : Int) < 2 := by omega
            have HNX : Hid _ := hnext
            clear hcc ed hwp ep hnext hcb
            go_wp2_with fail
            refine (CHUNK wr vr xs p (own_ints Or) hx' ha ⟨by omega, by omega⟩).mono ?_
            rintro e w8 ⟨rfl, b8⟩
            rw [ec]
            have Or := own_below Or b8
            have Ol := own_below Ol b8
            have Br := Br.trans (b8.mono Br.size)
            clear b8
            go_wp2_with fail
            refine (CHUNK w8 vr xs p (own_ints Or) hx' ha ⟨by omega, by omega⟩).mono ?_
            rintro e w9 ⟨rfl, b9⟩
            rw [ec]
            have Or := own_below Or b9
            have Ol := own_below Ol b9
            have Br := Br.trans (b9.mono Br.size)
            clear b9 ec
            go_wp2
            exact ⟨⟨j + 1, p + n, by omega, by go_num, by go_num, by omega, HNX.out, Or, Ol, Br⟩, by simp [intOf]; omega⟩
          · have hlt' : ¬ (j : Int) < (ls.length : Int) := by omega
            rw [List.drop_eq_nil_of_le (by omega)] at hwp
            have hend := walkO_nil hwp
            have epT : p = T := by omega
            subst epT
            go_wp2
            go_ret
            exact ⟨by simp, Br⟩
end Go.Proofs.Ytdogibjgogcdkaa.draw
