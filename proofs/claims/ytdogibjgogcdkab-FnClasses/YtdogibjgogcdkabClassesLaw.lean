/-
  The walk of the law FnClasses, given what the program's functions answer and what is drawn.
  Made from the template ClassesLaw.
-/
import Derived.Test.YtdogibjgogcdkabClassF
import Derived.Test.YtdogibjgogcdkabEntsX
import Derived.Test.YtdogibjgogcdkabDraw
namespace Go.Proofs.Ytdogibjgogcdkab.ents
open Go.RowKit rows heads

set_option maxRecDepth 100000 in
set_option maxHeartbeats 16000000 in
theorem classesLaw
    (OKS : ∀ (w : World) (v : Value) (es : List Ent), EntsAt w v es → Borne es → es.length ≤ 1048576 → namesLen es ≤ 1048576 → Calls Try.prog 24 #[v] w fun e w' => e = .returned (.bool (clsOk es)) ∧ Below w.heap.size w w')
    (CLAIM : ∀ (w : World) (v : Value) (es : List Ent) (name : ByteArray), EntsAt w v es → Borne es → es.length ≤ 1048576 → namesLen es ≤ 1048576 → name.size ≤ 1048576 → Calls Try.prog 19 #[v, .string name] w fun e w' => ∃ v', e = .returned (.tuple #[v', .int .i64 (clmIx es name)]) ∧ OwnE w' w.heap.size v' (clm es name) ∧ Below w.heap.size w w')
    (REL : ∀ (w : World) (v : Value) (es : List Ent) (x : Int), EntsAt w v es → Borne es → es.length ≤ 1048576 → namesLen es ≤ 1048576 → I64 x → Calls Try.prog 21 #[v, .int .i64 x] w fun e w' => ∃ v', e = .returned (.tuple #[v', .bool (relOk es x)]) ∧ OwnE w' w.heap.size v' (released es x) ∧ Below w.heap.size w w')
    (a0 : Option Addr) (len0 cap0 : Nat) (w : World)
    (DRAWC : len0 ≤ 4096 → ∀ W, Below w.heap.size w W → Calls Try.prog 18 #[.slice a0 len0 cap0] W fun e w' => ∃ (v : Value) (es : List Ent) (name : ByteArray), e = .returned (.tuple #[v, .string name]) ∧ EntsAt w' v es ∧ Borne es ∧ es.length ≤ 64 ∧ namesLen es ≤ 65536 ∧ name.size ≤ 64 ∧ Below W.heap.size W w')
    (DRAWR : len0 ≤ 4096 → ∀ W, Below w.heap.size w W → Calls Try.prog 20 #[.slice a0 len0 cap0] W fun e w' => ∃ (v : Value) (es : List Ent) (x : Int), e = .returned (.tuple #[v, .int .i64 x]) ∧ EntsAt w' v es ∧ Borne es ∧ es.length ≤ 64 ∧ namesLen es ≤ 65536 ∧ I64 x ∧ Below W.heap.size W w') :
    Calls Try.prog 4 #[.slice a0 len0 cap0] w fun e w' => e = .returned (.bool true) ∧ Below w.heap.size w w' := by
  have hl : 4096 < len0 ∨ len0 ≤ 4096 := by omega
  rcases hl with hl | hl
  · have hl' : (4096 : Int) < (len0 : Int) := by omega
    clear OKS CLAIM REL DRAWC DRAWR
    go_enter Try.func4, Try.ntmps4
    go_wp2
    go_ret
    exact ⟨rfl, Below.refl _ _⟩
  · have hl' : ¬ (4096 : Int) < (len0 : Int) := by omega
    have DRAWC := DRAWC hl
    have DRAWR := DRAWR hl
    go_enter Try.func4, Try.ntmps4
    go_wp2_with (go_at_call 8; go_in)
    refine (DRAWC w (Below.refl _ _)).mono ?_
    rintro e w1 ⟨vl, l, name, rfl, EL, bl, ll, nl, ns, B1⟩
    go_wp2_with fail
    refine (CLAIM w1 vl l name EL bl (by omega) (by omega) (by omega)).mono ?_
    rintro e w2 ⟨vx, rfl, OX, b2⟩
    have EX := ownE_ents OX
    have EL := entsAt_below EL b2
    have B2 := B1.trans (b2.mono B1.size)
    clear b2 B1 OX
    go_wp2_with fail
    refine (DRAWR w2 B2).mono ?_
    rintro e w3 ⟨va, a, x, rfl, EA, ba, la, na, hx, b3⟩
    have EX := entsAt_below EX b3
    have EL := entsAt_below EL b3
    have B3 := B2.trans (b3.mono B2.size)
    clear b3 B2 DRAWC DRAWR
    go_wp2_with fail
    refine (REL w3 va a x EA ba (by omega) (by omega) hx).mono ?_
    rintro e w4 ⟨vy, rfl, OY, b4⟩
    have EY := ownE_ents OY
    have EX := entsAt_below EX b4
    have EL := entsAt_below EL b4
    have EA := entsAt_below EA b4
    have B4 := B3.trans (b4.mono B3.size)
    clear b4 B3 OY
    go_wp2_with fail
    refine (sClaimed_any EL bl name (by omega)).mono ?_
    rintro e w5 ⟨vz, rfl, OZ, b5⟩
    have EZ := ownE_ents OZ
    have EY := entsAt_below EY b5
    have EX := entsAt_below EX b5
    have EL := entsAt_below EL b5
    have EA := entsAt_below EA b5
    have B5 := B4.trans (b5.mono B4.size)
    clear b5 B4 OZ
    have CF := claimed_fact l name
    have RF := released_fact (es := a) (x := x)
    have hyl : (released a x).length ≤ 1048576 := by
      have := others_length a x
      unfold released
      split
      · omega
      · simp
    have hxl : (clm l name).length ≤ 1048576 := by
      rcases CF with ⟨_, ⟨_, h⟩ | ⟨_, h⟩⟩ | ⟨f, _, _, h, _⟩
      · rw [h]; simp
      · rw [h]; omega
      · have := (clsOk_borne h).2.1; omega
    have OKL : ∀ (W : World) (v : Value), EntsAt W v l → _ := fun W v h => OKS W v l h bl (by omega) (by omega)
    have SOKL : ∀ (W : World) (v : Value), EntsAt W v l → _ := fun W v h => sClassesOk_any (w := W) (v := v) h bl
    have SREL : ∀ (W : World) (v : Value), EntsAt W v a → _ := fun W v h => sReleased_any (w := W) (v := v) h ba x
    have HCF : Hid _ := CF
    have HRF : Hid _ := RF
    clear CF RF
    generalize clm l name = xs at *
    generalize clmIx l name = k at *
    generalize released a x = ys at *
    generalize relOk a x = is at *
    generalize clsOk l = okl at *
    go_wp2_with fail
    refine (likeEntries_same EX EZ hxl).mono ?_
    rintro e w6 ⟨rfl, q6, rfl⟩
    have EY : EntsAt (w5.drewN q6) vy ys := EY
    have EX : EntsAt (w5.drewN q6) vx xs := EX
    have EL : EntsAt (w5.drewN q6) vl l := EL
    have EA : EntsAt (w5.drewN q6) va a := EA
    have B6 := bel_drewN (n := q6) B5
    clear B5 EZ
    generalize w5.drewN q6 = w6 at *
    go_wp2_with fail
    refine (OKL w6 vl EL).mono ?_
    rintro e w7 ⟨rfl, b7⟩
    have EY := entsAt_below EY b7
    have EX := entsAt_below EX b7
    have EL := entsAt_below EL b7
    have EA := entsAt_below EA b7
    have B7 := B6.trans (b7.mono B6.size)
    clear b7 B6
    go_wp2_with fail
    refine (SOKL w7 vl EL).mono ?_
    rintro e w8 ⟨rfl, b8⟩
    have EY := entsAt_below EY b8
    have EX := entsAt_below EX b8
    have EL := entsAt_below EL b8
    have EA := entsAt_below EA b8
    have B8 := B7.trans (b8.mono B7.size)
    clear b8 B7
    go_wp2_with fail
    refine (SREL w8 va EA).mono ?_
    rintro e w9 ⟨vz, rfl, OZ, b9⟩
    have EZ := ownE_ents OZ
    have EY := entsAt_below EY b9
    have EX := entsAt_below EX b9
    have EL := entsAt_below EL b9
    have EA := entsAt_below EA b9
    have B9 := B8.trans (b9.mono B8.size)
    clear b9 B8 OZ
    go_wp2_with fail
    refine (likeEntries_same EY EZ hyl).mono ?_
    rintro e wa ⟨rfl, qa, rfl⟩
    have EY : EntsAt (w9.drewN qa) vy ys := EY
    have EX : EntsAt (w9.drewN qa) vx xs := EX
    have EL : EntsAt (w9.drewN qa) vl l := EL
    have EA : EntsAt (w9.drewN qa) va a := EA
    have Ba := bel_drewN (n := qa) B9
    clear B9 EZ SREL OKL
    generalize w9.drewN qa = wa at *
    cases is
    case' false =>
      have EX' := EX
      have EL' := EL
      have Bd := Ba
      clear EX EL EA EY Ba HRF REL
      generalize wa = wd at *
    case' true =>
      obtain ⟨r1, r2, r3⟩ := HRF.out rfl
      obtain ⟨by', ly, ny⟩ := clsOk_borne r1
      have RL1 : ∀ (W : World) (v : Value), EntsAt W v ys → _ := fun W v h => REL W v ys x h by' (by omega) (by omega) hx
      have OK1 : ∀ (W : World) (v : Value), EntsAt W v ys → _ := fun W v h => OKS W v ys h by' (by omega) (by omega)
      rw [r2] at RL1
      rw [r1] at OK1
      clear HRF REL by' r1 r2
      go_wp2_with fail
      refine (RL1 wa vy EY).mono ?_
      rintro e wb ⟨vq, rfl, _, b2⟩
      have EY := entsAt_below EY b2
      have EX := entsAt_below EX b2
      have EL := entsAt_below EL b2
      have EA := entsAt_below EA b2
      have Bb := Ba.trans (b2.mono Ba.size)
      clear b2 Ba
      have EY0 := EY
      obtain ⟨ay, cy, rfl, _, _, _, _⟩ := EY
      obtain ⟨aa, ca, rfl, _, _, _, _⟩ := EA
      have r3' : (ys.length : Int) = (a.length : Int) - 1 := by omega
      go_wp2_with fail
      refine (OK1 wb _ EY0).mono ?_
      rintro e wd ⟨rfl, b3⟩
      have EX' := entsAt_below EX b3
      have EL' := entsAt_below EL b3
      have Bd := Bb.trans (b3.mono Bb.size)
      clear b3 Bb EX EL EY0 RL1 OK1
    all_goals
      rcases HCF.out with ⟨rfl, hk⟩ | ⟨f, rfl, f99, xok, xag, hnew⟩
      · clear HCF OKS CLAIM
        go_wp2_with fail
        refine (SOKL wd vl EL').mono ?_
        rintro e we ⟨rfl, b4⟩
        have EX2 := entsAt_below EX' b4
        have EL2 := entsAt_below EL' b4
        have HB : Hid _ := Bd.trans (b4.mono Bd.size)
        clear b4 Bd EX' EL' SOKL
        rcases hk with ⟨rfl, rfl⟩ | ⟨rfl, rfl⟩
        · obtain ⟨ax, cx, rfl, _, _, _, _⟩ := EX2
          go_wp2
          go_ret
          exact ⟨rfl, HB⟩
        · go_wp2_with fail
          refine (likeEntries_same EX2 EL2 hxl).mono ?_
          rintro e wf ⟨rfl, q, rfl⟩
          have HB2 : Hid _ := bel_drewN (n := q) HB.out
          clear HB
          go_wp2
          go_ret
          exact ⟨rfl, HB2⟩
      · obtain ⟨bx, lx, nx⟩ := clsOk_borne xok
        have CL1 : ∀ (W : World) (v : Value), EntsAt W v xs → _ := fun W v h => CLAIM W v xs name h bx hxl (by omega) (by omega)
        have OK1 : ∀ (W : World) (v : Value), EntsAt W v xs → _ := fun W v h => OKS W v xs h bx hxl (by omega)
        rw [xag] at CL1
        rw [xok] at OK1
        have HN : Hid _ := hnew
        clear HCF OKS CLAIM SOKL xag xok bx nx hnew
        go_wp2_with fail
        refine (CL1 wd vx EX').mono ?_
        rintro e we ⟨vq, rfl, _, b4⟩
        have EX2 := entsAt_below EX' b4
        have EL2 := entsAt_below EL' b4
        have HB : Hid _ := Bd.trans (b4.mono Bd.size)
        clear b4 Bd EX' EL' CL1
        have EX0 : Hid _ := EX2
        obtain ⟨ax, cx, rfl, _, _, _, hc⟩ := EX2
        obtain ⟨al, cl, rfl, _, _, _, _⟩ := EL2
        have HC : Hid _ := hc
        clear hc
        go_wp2_with fail
        go_loopw [19, 20] (fun fr iv wr => ∃ (n q : Nat) (b : Bool), n ≤ f ∧ iv = .int .i64 (n : Int) ∧ fr = .bool b ∧ Hid (xs.length ≠ l.length → b = true) ∧ wr = we.drewN q) (fun _ iv _ => f - (intOf iv).toNat)
        case atStart => exact ⟨0, 0, true, Nat.zero_le _, rfl, rfl, fun _ => rfl, rfl⟩
        case round =>
          obtain ⟨n, q, b, hn, rfl, rfl, Hb, rfl⟩ := hrel
          by_cases hlt : n < f
          · go_wp2_with fail
            go_loopw [21, 22] (fun fo jv wr => ∃ (m q2 : Nat) (c : Bool), m ≤ xs.length ∧ jv = .int .i64 (m : Int) ∧ fo = .bool c ∧ Hid (xs.length ≠ l.length → n < m → c = true) ∧ wr = we.drewN q2) (fun _ jv _ => xs.length - (intOf jv).toNat)
            case atStart => exact ⟨0, q, false, Nat.zero_le _, rfl, rfl, fun _ h => by omega, rfl⟩
            case round =>
              obtain ⟨m, q2, c, hm, rfl, rfl, Hc, rfl⟩ := hrel
              by_cases hlm : m < xs.length
              · obtain ⟨bk, off, rfl, hbk, hc⟩ := HC.out (by omega)
                have c0 := (hc m hlm).1
                have hnz : Hid (xs.length ≠ l.length → n = m → (xs.getD m entD).1 = (n : Int)) := by
                  intro h1 h2
                  subst h2
                  rcases HN.out with h | ⟨_, h⟩
                  · exact absurd h h1
                  · exact h n (by omega)
                clear hc HC HN
                generalize (xs.getD m entD).1 = z at *
                cases c
                · by_cases hz : z = (n : Int)
                  · subst hz
                    go_wp2
                    exact ⟨⟨m + 1, _, true, by omega, by go_num, rfl, fun _ _ => rfl, rfl⟩, by simp [intOf]; omega⟩
                  · have hz' : (z == (n : Int)) = false := by rw [beq_eq_false_iff_ne]; exact hz
                    have Hf : Hid (xs.length ≠ l.length → n < m + 1 → false = true) := by
                      intro h1 h2
                      rcases Nat.lt_or_ge n m with h3 | h3
                      · exact Hc.out h1 h3
                      · exact absurd (hnz.out h1 (by omega)) hz
                    go_wp2
                    exact ⟨⟨m + 1, _, false, by omega, by go_num, rfl, Hf, rfl⟩, by simp [intOf]; omega⟩
                · go_wp2
                  exact ⟨⟨m + 1, _, true, by omega, by go_num, rfl, fun _ _ => rfl, rfl⟩, by simp [intOf]; omega⟩
              · have Hf : Hid (xs.length ≠ l.length → (b && c) = true) := by
                  intro h1
                  rcases HN.out with h | ⟨h, _⟩
                  · exact absurd h h1
                  · rw [Hb.out h1, Hc.out h1 (by omega)]; rfl
                clear HC HN
                cases b <;> cases c
                all_goals go_wp2
                all_goals exact ⟨⟨n + 1, _, _, by omega, by go_num, rfl, Hf, rfl⟩, by simp [intOf]; omega⟩
          · clear HC HN
            have EX1 : Hid (EntsAt (we.drewN q) (.slice ax xs.length cx) xs) := EX0.out
            have HB1 : Hid _ := bel_drewN (n := q) HB.out
            clear EX0 HB
            generalize we.drewN q = wg at *
            go_wp2_with fail
            refine (OK1 wg _ EX1.out).mono ?_
            rintro e wh ⟨rfl, b6⟩
            have HB2 : Hid _ := HB1.out.trans (b6.mono HB1.out.size)
            clear OK1 EX1 HB1 b6
            by_cases hlen : xs.length = l.length
            · rw [hlen] at *
              go_wp2
              go_ret
              exact ⟨rfl, HB2⟩
            · have hb := Hb.out hlen
              subst hb
              have hlen' : ((xs.length : Int) == (l.length : Int)) = false := by rw [beq_eq_false_iff_ne]; omega
              go_wp2
              go_ret
              exact ⟨rfl, HB2⟩
end Go.Proofs.Ytdogibjgogcdkab.ents
