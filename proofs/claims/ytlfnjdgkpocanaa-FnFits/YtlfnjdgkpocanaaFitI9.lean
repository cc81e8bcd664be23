/-
  Chapter 8 as the program has it: BestFit.
  Made from the template FitI9.
-/
import Derived.Test.YtlfnjdgkpocanaaM7
import Derived.Test.YtlfnjdgkpocanaaM8
namespace Go.Proofs.Ytlfnjdgkpocanaa.walks
open Go.RowKit rows heads words region
set_option maxRecDepth 100000
set_option linter.unusedVariables false
set_option linter.unusedSimpArgs false

/-- How many are in the box. -/
def lenW (w : World) (P : Nat) : Nat :=
  match w.cell? ⟨P, 0, none⟩ with
  | some (.slice _ n _) => n
  | _ => 0
theorem lenW_bag {w : World} {base P : Nat} {hi : Nat → Prop} {R : List Run} (h : Bag w base P hi R) : lenW w P = R.length := by
  obtain ⟨a, c, h1, _⟩ := h.ex
  unfold lenW
  rw [(box_cell h1).1]
theorem fit_of {xs : List Int} {f t s : Int} {o : Option Run} (h : IsFit (frees xs f t) s o) (hs : 2 ≤ s ∧ s % 2 = 0) : bestFit xs f t s = fitV o := by
  unfold bestFit
  rw [if_pos hs, isFit_unique h (fitL_is s _ (frees_rise xs f t))]
theorem bag_new {w : World} : Bag ((w.alloc (.cells #[] 47)).alloc (.cells #[.slice (some ⟨w.heap.size, 0, none⟩) 0 0] 43)) w.heap.size (w.heap.size + 1) (fun _ => False) [] := by
  have hs : (w.alloc (.cells #[] 47)).heap.size = w.heap.size + 1 := by simp
  have hb : Below (w.heap.size + 1) (w.alloc (.cells #[] 47)) ((w.alloc (.cells #[] 47)).alloc (.cells #[.slice (some ⟨w.heap.size, 0, none⟩) 0 0] 43)) := (Below.refl _ _).alloc (by omega) _
  refine ⟨⟨some ⟨w.heap.size, 0, none⟩, 0, ?_, ownF_below (ownF_nothing w) (hb.mono (by omega)), fun k hk => ⟨fun e => e, ?_⟩⟩, by omega, fun e => e, fun k e => e.elim, by simp⟩
  · have := heap_alloc_new (w.alloc (.cells #[] 47)) (.cells #[.slice (some ⟨w.heap.size, 0, none⟩) 0 0] 43)
    rw [hs] at this
    exact this
  · have : w.heap.size = k := Option.some.inj hk
    omega
/-- Blocks that came later are left alone as well. -/
theorem Bag.keep {w w' : World} {base P : Nat} {R : List Run} (h : Bag w base P (fun _ => False) R) (hb : Below w.heap.size w w') : Bag w' base P (fun k => w.heap.size ≤ k ∧ k < w'.heap.size) R := by
  obtain ⟨a, c, h1, h2, h3⟩ := h.ex
  refine ⟨⟨a, c, (hb.block P (lt_of_block h1)).trans h1, ownF_below h2 hb, fun k hk => ⟨fun e => ?_, (h3 k hk).2⟩⟩, h.le, fun e => ?_, fun k hk => hk.2, h.len⟩
  · have := (ownF_lt h2 k hk).2
    omega
  · have := h.pw
    omega
set_option maxHeartbeats 16000000 in
theorem implBestFit (w : World) (v : Value) (xs : List Int) (f : Int) (t : Int) (s : Int) (h : IntsAt w v xs) (hl : xs.length ≤ 1048576) (ha : AllI xs) (hf : I64 f) (ht : I64 t) (hs : I64 s) :
    Calls Try.prog 7 #[v, .int .i64 f, .int .i64 t, .int .i64 s] w fun e w' => e = .returned (.int .i64 (bestFit xs f t s)) ∧ Below w.heap.size w w' := by
  have CS := chunkSizeOk_any s w hs
  obtain ⟨a, cap, rfl, hlc, hcm, _, _⟩ := id h
  cases d : csOk s
  · have e : bestFit xs f t s = -1 := by
      unfold bestFit
      rw [if_neg]
      intro e
      have : csOk s = true := by simp [csOk]; omega
      rw [this] at d; cases d
    rw [e]
    rw [d] at CS
    clear d e
    go_enter Try.func7, Try.ntmps7
    go_wp2_with (go_at_call 22; refine CS.mono ?_; clear CS; rintro e w1 ⟨rfl, hw1⟩; rw [hw1]; clear hw1 w1)
    go_ret
    exact ⟨rfl, Below.refl _ _⟩
  · have hs2 : 2 ≤ s ∧ s % 2 = 0 := by simpa [csOk] using d
    rw [d] at CS
    have HFIT : Hid (∀ o, IsFit (frees xs f t) s o → bestFit xs f t s = fitV o) := fun o ho => fit_of ho hs2
    obtain ⟨A, hA⟩ : ∃ A, bestFit xs f t s = A := ⟨_, rfl⟩
    rw [hA] at HFIT
    rw [hA]
    have B1 : Below w.heap.size w ((w.alloc (.cells #[] 47)).alloc (.cells #[.slice (some ⟨w.heap.size, 0, none⟩) 0 0] 43)) := ((Below.refl _ _).alloc (Nat.le_refl _) _).alloc (by simp) _
    have FI := implFreeIn _ _ xs f t (intsAt_below h B1) hl ha hf ht
    have HBG : Hid _ := bag_new (w := w)
    have HB1 : Hid _ := B1
    have HM : ∀ x ∈ freeIn xs f t, _ := fun x hx => free_size hx
    have HG : ∀ k, k < (freeIn xs f t).length → _ := fun k hk => frees_get (xs := xs) (f := f) (t := t) hk
    have hLL : (frees xs f t).length = (freeIn xs f t).length := by unfold frees; rw [List.length_map]
    have hln : (freeIn xs f t).length ≤ 1000 := (freeIn_length xs f t).1
    obtain ⟨L, hL⟩ : ∃ L, freeIn xs f t = L := ⟨_, rfl⟩
    obtain ⟨RL, hRL⟩ : ∃ RL, frees xs f t = RL := ⟨_, rfl⟩
    rw [hL] at FI HM HG hLL hln
    rw [hRL] at HG hLL HFIT
    have HMH : Hid _ := HM
    have HGH : Hid _ := HG
    have HLL : Hid _ := hLL
    have HCH : Hid (∀ (W : World) (j : Nat), Below w.heap.size w W → okAt xs j = true → Calls Try.prog 13 #[.slice a xs.length cap, .int .i64 j] W fun e w' => e = .returned (.int .i64 ((chunk xs j).toNat : Int)) ∧ Below W.heap.size W w') := fun W j hW hm => by
      have := implChunkAt W _ xs j (intsAt_below h hW) hl ha ⟨by omega, by have := hm; simp only [okAt, Bool.and_eq_true] at this; have := atOk_true this.2; omega⟩
      rw [chunkAt_in hm, ← chunk_nat xs j] at this
      exact this
    clear hL hRL hA HM HG hLL h ha hf ht B1 d
    go_enter Try.func7, Try.ntmps7
    go_upto_region 4 with (go_at_call 22; refine CS.mono ?_; clear CS; rintro e w1 ⟨rfl, hw1⟩; rw [hw1]; clear hw1 w1)
    have hsX : ((w.alloc (.cells #[] 47)).alloc (.cells #[.slice (some ⟨w.heap.size, 0, none⟩) 0 0] 43)).heap.size = w.heap.size + 2 := by simp
    have HSX : Hid _ := hsX
    clear hsX
    generalize (w.alloc (.cells #[] 47)).alloc (.cells #[.slice (some ⟨w.heap.size, 0, none⟩) 0 0] 43) = X at *
    go_wp2_with (go_at_call 8; refine FI.mono ?_; clear FI; rintro e w1 ⟨vl, rfl, OL, b1⟩; have HOL : Hid _ := own_ints OL; have HIN : Hid _ := own_in OL; have HBG1 : Hid _ := HBG.out.keep b1; have HB2 : Hid _ := HB1.out.trans (b1.mono HB1.out.size); obtain ⟨la, lcap, rfl, llc, lcm, _, _⟩ := own_ints OL; clear OL b1 HBG)
    go_loopw [22] (fun q wr => ∃ (k : Nat) (R : List Run), q = .int .i64 (k : Int) ∧ k ≤ L.length ∧ Bag wr w.heap.size (w.heap.size + 1) (fun k => X.heap.size ≤ k ∧ k < w1.heap.size) R ∧ R.length = k ∧ HeapF R R.length ∧ (∀ y, y ∈ R ↔ y ∈ RL.take k) ∧ Kp w.heap.size (w.heap.size + 1) (fun k => X.heap.size ≤ k ∧ k < w1.heap.size) w1 wr) (fun q _ => L.length - (intOf q).toNat)
    case atStart => exact ⟨0, [], rfl, Nat.zero_le _, HBG1.out, rfl, fun k _ hk => by simp at hk, fun y => by simp, Kp.refl _ _ _ _⟩
    case round =>
      obtain ⟨k, R, rfl, hk, hB, hRl, hH, hm, hK⟩ := hrel
      clear HBG1
      have HBB : Hid _ := hB
      have HRL : Hid _ := hRl
      have HH : Hid _ := hH
      have HM : Hid _ := hm
      have HK : Hid _ := hK
      by_cases hlt : k < L.length
      · have hlt' : (k : Int) < (L.length : Int) := by omega
        obtain ⟨la', lcap', e', _, _, _, hcy⟩ := HOL.out
        injection e' with e1 e2 e3
        subst e1 e3
        obtain ⟨lb, loff, rfl, _, hcy⟩ := hcy (by omega)
        have c0 := hcy k hlt
        have c1 : wr.cell? ⟨lb, loff + k, none⟩ = some (.int .i64 (L.getD k 0)) := by
          rw [← c0]
          unfold World.cell?
          rw [hK.mid lb (HIN.out lb rfl)]
        have hgk := HGH.out k hlt
        obtain ⟨j, hj, hjl, hjw, hjo, _, hjc⟩ := HMH.out (L.getD k 0) (by rw [List.getD_eq_getElem?_getD, List.getElem?_eq_getElem hlt]; exact List.getElem_mem hlt)
        rw [hj] at c1 hgk
        unfold runOf at hgk
        rw [Int.toNat_natCast] at hgk
        have CH := HCH.out wr j (HB2.out.trans hK.below) hjo
        obtain ⟨n, hn⟩ : ∃ n, (chunk xs j).toNat = n := ⟨_, rfl⟩
        rw [hn] at CH hgk hjc
        have HPU : Hid (∀ V, Below wr.heap.size wr V → Calls Try.prog 23 #[.iface 45 (.pointer (some ⟨w.heap.size + 1, 0, none⟩)), .iface 47 (.agg #[.int .i64 (j : Int), .int .i64 (n : Int)])] V fun e w' => e = .returned (.tuple #[]) ∧ ∃ (R : List Run), Bag w' w.heap.size (w.heap.size + 1) (fun k => X.heap.size ≤ k ∧ k < w1.heap.size) R ∧ R.length = k + 1 ∧ HeapF R R.length ∧ (∀ y, y ∈ R ↔ y ∈ RL.take (k + 1)) ∧ Kp w.heap.size (w.heap.size + 1) (fun k => X.heap.size ≤ k ∧ k < w1.heap.size) w1 w') := fun V hV => by
          obtain ⟨B5, K5⟩ := hB.grow hV
          refine (heapPush_any B5 hH (by omega) (j, n)).mono ?_
          rintro e w' ⟨rfl, R', h1, h2, h3, h4, h5⟩
          refine ⟨rfl, R', h1, by omega, h3, fun y => (h4 y).trans ?_, hK.trans (K5.trans h5)⟩
          have hkR : k < RL.length := by rw [HLL.out]; exact hlt
          have e4 : RL.take (k + 1) = RL.take k ++ [(j, n)] := by
            rw [List.take_add_one, List.getElem?_eq_getElem hkR]
            have : RL[k] = (j, n) := by
              rw [← hgk]
              unfold rd
              rw [List.getD_eq_getElem?_getD, List.getElem?_eq_getElem hkR]
              rfl
            rw [this]
            rfl
          rw [e4, List.mem_append, List.mem_append, hm y]
        clear hB hH hm hK hRl hcy c0 hgk hjw hn hj hjo
        go_wp2_with (first
          | (go_at_call 13; refine CH.mono ?_; clear CH; rintro e w5 ⟨rfl, b5⟩; have PU := HPU.out w5 b5; clear b5 HPU c1)
          | (go_at_call 23; refine PU.mono ?_; clear PU; rintro e w6 ⟨rfl, H6⟩; have HH6 : Hid _ := H6; clear H6))
        obtain ⟨R', h1, h2, h3, h4, h5⟩ := HH6.out
        exact ⟨⟨k + 1, R', by go_num, by omega, h1, h2, h3, h4, h5⟩, by simp [intOf]; omega⟩
      · have hkL : k = L.length := by omega
        have hlt' : ¬ (k : Int) < (L.length : Int) := by omega
        have HPF : Hid (PopF RL R s) := by
          have e : RL.take k = RL := by rw [hkL, ← HLL.out]; exact List.take_length
          rw [e] at hm
          exact ⟨fun r hr => (hm r).1 hr, fun r hr _ => (hm r).2 hr, hH⟩
        have HBW : Hid _ := HB2.out.trans hK.below
        clear hB hH hm hK hRl HRL HM HK HH hkL
        go_wp2_with fail
        go_loopw [8] (fun q wz => q = .int .i64 0 ∧ ∃ (R : List Run), Bag wz w.heap.size (w.heap.size + 1) (fun k => X.heap.size ≤ k ∧ k < w1.heap.size) R ∧ PopF RL R s ∧ Below w.heap.size w wz) (fun _ wz => lenW wz (w.heap.size + 1))
        case atStart => exact ⟨rfl, R, HBB.out, HPF.out, HBW.out⟩
        case round =>
          obtain ⟨rfl, R2, hB, hP, hW⟩ := hrel
          clear HBB HPF HBW
          obtain ⟨a2, c2, hx, hO, hkk⟩ := hB.ex
          have z0 := (box_cell hx).1
          have LN := lenF_any a2 R2.length c2 wr hB.len
          have hlw := lenW_bag hB
          have HW : Hid _ := hW
          have hlen2 := hB.len
          cases hR : R2.length with
          | zero =>
            have HE : Hid (A = -1) := HFIT.out none (hP.none hR)
            rw [hR] at z0 LN
            clear hB hP hW hx hO hkk hlw hR
            go_wp2_with (go_at_call 24; refine LN.mono ?_; clear LN; rintro e w2 ⟨rfl, hw2⟩; rw [hw2]; clear hw2 w2)
            go_ret
            exact ⟨by rw [HE.out]; rfl, HW.out⟩
          | succ m =>
            have TL := takeLeast_any hB hR (hR ▸ hP.heap)
            have HSOME : Hid (s ≤ ((rd R2 0).2 : Int) → A = ((rd R2 0).1 : Int)) := fun e => HFIT.out (some (rd R2 0)) (hP.some (by omega) e)
            have HNEXT : Hid (¬ s ≤ ((rd R2 0).2 : Int) → ∀ V V', Taken V w.heap.size (w.heap.size + 1) (fun k => X.heap.size ≤ k ∧ k < w1.heap.size) m R2 → Kp w.heap.size (w.heap.size + 1) (fun k => X.heap.size ≤ k ∧ k < w1.heap.size) wr V → Below V.heap.size V V' → (∃ (R : List Run), Bag V' w.heap.size (w.heap.size + 1) (fun k => X.heap.size ≤ k ∧ k < w1.heap.size) R ∧ PopF RL R s ∧ Below w.heap.size w V') ∧ lenW V' (w.heap.size + 1) < lenW wr (w.heap.size + 1)) := fun e V V' ⟨R', t1, t2, t3, t4, t5⟩ hk hv => by
              obtain ⟨B5, K5⟩ := t1.grow hv
              have el : (R'.take m).length = m := by rw [List.length_take]; omega
              refine ⟨⟨R'.take m, B5, hP.next hR e t2 t4 t5 t3, hW.trans (hk.below.trans K5.below)⟩, ?_⟩
              rw [hlw, lenW_bag B5, el, hR]
              omega
            have HBK : Hid (∀ V, Kp w.heap.size (w.heap.size + 1) (fun k => X.heap.size ≤ k ∧ k < w1.heap.size) wr V → Below w.heap.size w V) := fun V hk => hW.trans hk.below
            rw [hR] at z0 LN
            have hml : m + 1 ≤ 1048576 := by omega
            obtain ⟨x, hx0⟩ : ∃ x, rd R2 0 = x := ⟨_, rfl⟩
            rw [hx0] at TL HSOME HNEXT
            unfold runv at TL
            clear hB hP hW hx hO hkk hlw hx0
            obtain ⟨xa, xn⟩ := x
            simp only at TL HSOME HNEXT
            by_cases hsz : s ≤ (xn : Int)
            · have hsz' : (xn : Int) ≥ s := hsz
              have HE : Hid (A = (xa : Int)) := HSOME.out hsz
              clear HSOME HNEXT
              go_upto_region 11 with (first
                | (go_at_call 24; refine LN.mono ?_; clear LN; rintro e w2 ⟨rfl, hw2⟩; rw [hw2]; clear hw2 w2)
                | (go_at_call 25; refine TL.mono ?_; clear TL z0; rintro e w3 ⟨rfl, T3, K3⟩; have HK3 : Hid _ := HBK.out w3 K3; clear T3 K3 HBK))
              obtain ⟨y0, y1⟩ := fc_cells (heap_alloc_new w3 (fcb xa xn))
              have HB4 : Hid _ := HK3.out.alloc HK3.out.size (fcb xa xn)
              generalize w3.alloc (fcb xa xn) = Y at *
              go_wp2_with fail
              go_ret
              exact ⟨by rw [HE.out]; rfl, HB4.out⟩
            · have hsz' : ¬ (xn : Int) ≥ s := hsz
              have HNX : Hid _ := HNEXT.out hsz
              clear HSOME HNEXT
              go_upto_region 11 with (first
                | (go_at_call 24; refine LN.mono ?_; clear LN; rintro e w2 ⟨rfl, hw2⟩; rw [hw2]; clear hw2 w2)
                | (go_at_call 25; refine TL.mono ?_; clear TL z0; rintro e w3 ⟨rfl, T3, K3⟩; have HT3 : Hid _ := And.intro T3 K3; clear T3 K3 HBK))
              obtain ⟨y0, y1⟩ := fc_cells (heap_alloc_new w3 (fcb xa xn))
              have HB4 : Hid (Below w3.heap.size w3 (w3.alloc (fcb xa xn))) := (Below.refl _ _).alloc (Nat.le_refl _) _
              generalize w3.alloc (fcb xa xn) = Y at *
              go_wp2_with fail
              obtain ⟨q1, q2⟩ := HNX.out w3 Y HT3.out.1 HT3.out.2 HB4.out
              exact ⟨⟨rfl, q1⟩, q2⟩
end Go.Proofs.Ytlfnjdgkpocanaa.walks
