/-
  Two graphs held against each other by laws.likeGraph: the same graph is alike.
  Made from the template LikeG.
-/
import Derived.Test.YtcboojhabolcbaaGreatDoorM5
import Derived.Test.YtcboojhabolcbaaGreatDoorM6
import Derived.Lib.Hide
namespace Go.Proofs.YtcboojhabolcbaaGreatDoor.gr
open Go.RowKit rows heads
set_option maxRecDepth 100000
set_option linter.unusedVariables false

theorem below_drewN {base : Nat} {w W : World} (h : Below base w W) (n : Nat) : Below base w (W.drewN n) := ⟨h.os, h.tape, h.output, h.size, h.block⟩

theorem cell_lt6 {w : World} {b k : Nat} {v : Value} (h : w.cell? ⟨b, k, none⟩ = some v) : b < w.heap.size := by
  rcases Nat.lt_or_ge b w.heap.size with h' | h'
  · exact h'
  · simp [World.cell?, Array.getElem?_eq_none h'] at h
set_option maxHeartbeats 8000000 in
theorem likeGraph_same {w : World} {o r m o' r' m' : Value} {ms ns : List MO} {G : Gr} (h : GraphAt w o r m ms G) (h' : GraphAt w o' r' m' ns G) (hs : gSize ms G ≤ 1048576) :
    Calls Tryz.prog 13 #[gv o r m G.next G.seed, gv o' r' m' G.next G.seed] w fun e w' => e = .returned (.bool true) ∧ Below w.heap.size w w' := by
  have hsl := gSize_slots hs
  have hsz : G.roots.length ≤ 1048576 ∧ G.mourned.length ≤ 1048576 ∧ ms.length ≤ 1048576 := by unfold gSize at hs; omega
  obtain ⟨o1, o2, o3, r1, r2, r3, m1, m2, m3, e1, e2, e3⟩ := graphAt_slices h
  obtain ⟨p1, p2, p3, s1, s2, s3, t1, t2, t3, e4, e5, e6⟩ := graphAt_slices h'
  subst e1 e2 e3 e4 e5 e6
  have L1 := graphAt_len h
  have L2 := graphAt_len h'
  have eo : o2 = ms.length := by obtain ⟨a0, c0, e, _⟩ := h.2.1.1; injection e
  have ep : p2 = ms.length := by obtain ⟨a0, c0, e, _⟩ := h'.2.1.1; injection e with _ e _; omega
  subst eo ep
  obtain ⟨X, hX⟩ : ∃ X, X = (w.alloc (gb (.slice o1 ms.length o3) (.slice r1 r2 r3) (.slice m1 m2 m3) G.next G.seed)).alloc (gb (.slice p1 ms.length p3) (.slice s1 s2 s3) (.slice t1 t2 t3) G.next G.seed) := ⟨_, rfl⟩
  have BX : Below w.heap.size w X := by rw [hX]; exact ((Below.refl _ w).alloc (Nat.le_refl _) _).alloc (by simp) _
  have TX : Five X w.heap.size 27 (.slice o1 ms.length o3) (.slice r1 r2 r3) (.slice m1 m2 m3) (.int .i64 G.next) (.int .i64 G.seed) := by rw [hX]; exact five_below (five_new w _ _ _ _ _ _) ((Below.refl _ _).alloc (Nat.le_refl _) _)
  have UX : Five X (w.heap.size + 1) 27 (.slice p1 ms.length p3) (.slice s1 s2 s3) (.slice t1 t2 t3) (.int .i64 G.next) (.int .i64 G.seed) := by
    have := five_new (w.alloc (gb (.slice o1 ms.length o3) (.slice r1 r2 r3) (.slice m1 m2 m3) G.next G.seed)) 27 (.slice p1 ms.length p3) (.slice s1 s2 s3) (.slice t1 t2 t3) (.int .i64 G.next) (.int .i64 G.seed)
    rw [hX]
    rw [show (w.alloc (gb (.slice o1 ms.length o3) (.slice r1 r2 r3) (.slice m1 m2 m3) G.next G.seed)).heap.size = w.heap.size + 1 by simp] at this
    exact this
  have HG : Hid _ := h
  have HG' : Hid _ := h'
  have HBX : Hid _ := BX
  have HTX : Hid _ := TX
  have HUX : Hid _ := UX
  have HLR : Hid (∀ n, _) := fun n => likeRefs_same (w := X.drewN n) (graphAt_below h (below_drewN BX n)).2.2.1 (graphAt_below h' (below_drewN BX n)).2.2.1 hsz.1
  have HLM : Hid (∀ n, _) := fun n => likeRefs_same (w := X.drewN n) (graphAt_below h (below_drewN BX n)).2.2.2 (graphAt_below h' (below_drewN BX n)).2.2.2 hsz.2.1
  have LR0 := likeRefs_same (w := X) (graphAt_below h BX).2.2.1 (graphAt_below h' BX).2.2.1 hsz.1
  obtain ⟨u0, u1, u2, u3, u4, _⟩ := five_cells TX
  obtain ⟨v0, v1, v2, v3, v4, _⟩ := five_cells UX
  have HSL : Hid _ := hsl
  have HL1 : Hid _ := L1
  have HL2 : Hid _ := L2
  have hml := hsz.2.2
  have en : (G.next != G.next) = false := by simp
  have es : (G.seed != G.seed) = false := by simp
  have el : (((ms.length : Int)) != (ms.length : Int)) = false := by simp
  clear h h' BX TX UX hsl L1 L2 hsz
  go_enter Tryz.func13, Tryz.ntmps13
  go_wp2_with fail
  rw [← hX]
  clear hX
  refine LR0.mono ?_
  rintro e w1 ⟨rfl, n1, rfl⟩
  go_wp2_with fail
  refine (HLM.out n1).mono ?_
  rintro e w2 ⟨rfl, n2, rfl⟩
  clear LR0 HLR HLM
  go_wp2_with fail
  go_loopw [5] (fun p wr => ∃ k : Nat, k ≤ ms.length ∧ p = .int .i64 (k : Int) ∧ Hid (Below X.heap.size X wr)) (fun p _ => ms.length - (intOf p).toNat)
  case atStart => exact ⟨0, Nat.zero_le _, rfl, below_drewN (Below.refl X.heap.size X) (n1 + n2)⟩
  case round =>
    obtain ⟨k, hk, rfl, HB⟩ := hrel
    obtain ⟨f0, _, _, _, _, _⟩ := five_cells (five_below HTX.out HB.out)
    obtain ⟨g0, _, _, _, _, _⟩ := five_cells (five_below HUX.out HB.out)
    by_cases hlt : k < ms.length
    · have GA := graphAt_below HG.out (HBX.out.trans (HB.out.mono HBX.out.size))
      have GA' := graphAt_below HG'.out (HBX.out.trans (HB.out.mono HBX.out.size))
      have lns : ns.length = ms.length := HL2.out.trans HL1.out.symm
      obtain ⟨a0, c0, e, _, _, _, hc⟩ := GA.2.1.1
      injection e with e1 e2 e3
      subst e1 e3
      obtain ⟨b, off, rfl, hb, hcc⟩ := hc (by omega)
      obtain ⟨x0, x1, x2, x3, x4⟩ := hcc k hlt
      obtain ⟨a0', c0', e', _, _, _, hc'⟩ := GA'.2.1.1
      injection e' with e1 e2 e3
      subst e1 e3
      obtain ⟨b', off', rfl, hb', hcc'⟩ := hc' (by omega)
      obtain ⟨y0, y1, y2, y3, y4⟩ := hcc' k (by omega)
      have ab := graphAt_get HG.out k
      have ab' := graphAt_get HG'.out k
      have RA := GA.2.1.2 _ (mem_getD (ms := ms) (i := k) hlt)
      have RA' := GA'.2.1.2 _ (mem_getD (ms := ns) (i := k) (by omega))
      have sl := HSL.out _ (mem_getD (ms := ms) (i := k) hlt)
      have ei : (ns.getD k moD).id = (ms.getD k moD).id := congrArg Ob.id (ab'.trans ab.symm)
      have ec : (ns.getD k moD).cls = (ms.getD k moD).cls := congrArg Ob.cls (ab'.trans ab.symm)
      have ef : (ns.getD k moD).fmt = (ms.getD k moD).fmt := congrArg Ob.fmt (ab'.trans ab.symm)
      have eh : (ns.getD k moD).hash = (ms.getD k moD).hash := congrArg Ob.hash (ab'.trans ab.symm)
      have ess : (ns.getD k moD).slots = (ms.getD k moD).slots := congrArg Ob.slots (ab'.trans ab.symm)
      rw [ei] at y0
      rw [ec] at y1
      rw [ef] at y2
      rw [eh] at y3
      rw [ess] at RA'
      obtain ⟨sa, sn, sc, hsv⟩ := refs_slice RA
      obtain ⟨sa', sn', sc', hsv'⟩ := refs_slice RA'
      rw [hsv] at x4 RA
      rw [hsv'] at y4 RA'
      have hlt' : (k : Int) < (ms.length : Int) := by omega
      generalize (ms.getD k moD).id = xi at *
      generalize (ms.getD k moD).cls = xc at *
      generalize (ms.getD k moD).fmt = xf at *
      generalize (ms.getD k moD).hash = xh at *
      generalize (ms.getD k moD).slots = xs at *
      obtain ⟨Y, hY⟩ : ∃ Y, Y = (wr.alloc (.cells #[.int .i64 xi, .int .i64 xc, .int .i64 xf, .int .i64 xh, .slice sa sn sc] 47)).alloc (.cells #[.int .i64 xi, .int .i64 xc, .int .i64 xf, .int .i64 xh, .slice sa' sn' sc'] 47) := ⟨_, rfl⟩
      have BY : Below wr.heap.size wr Y := by rw [hY]; exact ((Below.refl _ _).alloc (Nat.le_refl _) _).alloc (by simp) _
      have BW : Below wr.heap.size wr (wr.alloc (.cells #[.int .i64 xi, .int .i64 xc, .int .i64 xf, .int .i64 xh, .slice sa sn sc] 47)) := (Below.refl _ _).alloc (Nat.le_refl _) _
      have LRY := likeRefs_same (w := Y) (refsAt_below RA BY) (refsAt_below RA' BY) sl
      have g0' := (BW.cell (p := ⟨w.heap.size + 1, 0, none⟩) (cell_lt6 g0)).trans g0
      have z0 := (BW.cell (p := ⟨b', off' + k * 5, none⟩) (cell_lt6 y0)).trans y0
      have z1 := (BW.cell (p := ⟨b', off' + k * 5 + 1, none⟩) (cell_lt6 y1)).trans y1
      have z2 := (BW.cell (p := ⟨b', off' + k * 5 + 2, none⟩) (cell_lt6 y2)).trans y2
      have z3 := (BW.cell (p := ⟨b', off' + k * 5 + 3, none⟩) (cell_lt6 y3)).trans y3
      have z4 := (BW.cell (p := ⟨b', off' + k * 5 + 4, none⟩) (cell_lt6 y4)).trans y4
      have k1 : (xi != xi) = false := by simp
      have k2 : (xc != xc) = false := by simp
      have k3 : (xf != xf) = false := by simp
      have k4 : (xh != xh) = false := by simp
      have HBF : Hid _ := HB.out.trans (BY.mono HB.out.size)
      clear GA GA' hc hcc hc' hcc' ab ab' ei ec ef eh ess RA RA' BY BW HB HG HG' HBX HTX HUX HSL lns hsv hsv' e2
      go_wp2_with (go_at_call 42; rw [← hY]; refine LRY.mono ?_; rintro e w9 ⟨rfl, n9, rfl⟩)
      rw [hY] at HBF
      exact ⟨⟨k + 1, by omega, by go_num, below_drewN HBF.out _⟩, by simp [intOf]; omega⟩
    · have hlt' : ¬ (k : Int) < (ms.length : Int) := by omega
      have HBF : Hid _ := HBX.out.trans (HB.out.mono HBX.out.size)
      clear HG HG' HB HBX HTX HUX
      go_wp2
      go_ret
      exact ⟨rfl, HBF.out⟩
end Go.Proofs.YtcboojhabolcbaaGreatDoor.gr
