/-
  Chapter 6 as the specification has it: the hash of the object to which a root leads.
  Made from the template GraphS3.
-/
import Derived.Test.YtcboojhabolcbaaGreatDoorM6
import Derived.Test.YtcboojhabolcbaaGreatDoorGraphS
namespace Go.Proofs.YtcboojhabolcbaaGreatDoor.gr
open Go.RowKit rows heads
set_option maxRecDepth 100000

/-- The ref at a root. -/
abbrev rootAt (G : Gr) (x : Int) : Rf := G.roots.getD x.toNat refD
def hashAt (G : Gr) (x : Int) : Int := if (inR 0 5 x && (rootAt G x).1 == 2) = true then (G.objs.getD (atI G.objs (rootAt G x).2).toNat obD).hash else -1
theorem gOk_parts {G : Gr} (h : gOk G = true) : G.roots.length = 6 ∧ ∀ i, i < 6 → refOk G.objs (G.roots.getD i refD) = true := by
  unfold gOk at h
  simp only [Bool.and_eq_true] at h
  obtain ⟨⟨⟨h0, _⟩, h2⟩, _⟩ := h
  unfold gHead at h0
  simp only [Bool.and_eq_true, decide_eq_true_eq] at h0
  rw [List.all_eq_true] at h2
  exact ⟨h0.1.1.1.2, fun i hi => h2 i (List.mem_range.2 hi)⟩
theorem refOk_two {os : List Ob} {r : Rf} (h : refOk os r = true) (h2 : r.1 = 2) : 0 ≤ atI os r.2 ∧ atI os r.2 < os.length := by
  unfold refOk at h
  rw [h2] at h
  simp at h
  rcases atI_le os r.2 with ⟨_, h3⟩ | h3
  · exact ⟨h, h3⟩
  · omega

set_option maxHeartbeats 4000000 in
theorem l6Hash_any {w : World} {o r m : Value} {ms : List MO} {G : Gr} (h : GraphAt w o r m ms G) (hl : ms.length ≤ 1048576) (hok : gOk G = true) (x : Int) :
    Calls Tryz.prog 45 #[gv o r m G.next G.seed, .int .i64 x] w fun e w' => e = .returned (.int .i64 (hashAt G x)) ∧ Below w.heap.size w w' := by
  obtain ⟨h6, href⟩ := gOk_parts hok
  have hlen := graphAt_len h
  have hget := graphAt_get h
  have h' := h
  obtain ⟨_, ⟨⟨a, cap, rfl, hlc, hcm, _, hc⟩, _⟩, ⟨a2, cap2, rfl, hlc2, hcm2, _, hc2⟩, hM⟩ := h
  obtain ⟨a3, n3, c3, e3⟩ := refs_slice hM
  subst e3
  have hcb : cap ≤ 9223372036854775807 := hcm
  have hcb2 : cap2 ≤ 9223372036854775807 := hcm2
  have B : Below w.heap.size w (w.alloc (gb (.slice a ms.length cap) (.slice a2 G.roots.length cap2) (.slice a3 n3 c3) G.next G.seed)) := (Below.refl _ w).alloc (Nat.le_refl _) _
  have RT := l6Root_any x
  cases d : inR 0 5 x
  · have e : hashAt G x = -1 := by unfold hashAt; rw [d]; rfl
    rw [e]
    rw [d] at RT
    have HB : Hid _ := B
    clear hc hc2 hM B h' hget hlen href e h6
    go_enter Tryz.func45, Tryz.ntmps45
    go_wp2_with (go_at_call 64; refine (RT _).mono ?_; rintro e w3 ⟨rfl, hw3⟩; rw [hw3]; clear hw3 w3)
    go_ret
    exact ⟨rfl, HB⟩
  obtain ⟨x0, x5⟩ := inR_true d
  obtain ⟨n, rfl⟩ := Int.eq_ofNat_of_zero_le x0
  have hn : n < G.roots.length := by omega
  obtain ⟨b2, o2, rfl, hb2, hcell⟩ := hc2 (by omega)
  have t0 := (B.cell (p := ⟨b2, o2 + n * 2, none⟩) hb2).trans (hcell n hn).1
  have t1 := (B.cell (p := ⟨b2, o2 + n * 2 + 1, none⟩) hb2).trans (hcell n hn).2
  have hrf := href n (by omega)
  have HE : hashAt G (n : Int) = if ((G.roots.getD n refD).1 == 2) = true then (G.objs.getD (atI G.objs (G.roots.getD n refD).2).toNat obD).hash else -1 := by
    unfold hashAt rootAt
    rw [d]
    simp
  rw [HE]
  rw [d] at RT
  have T := five_new w 27 (.slice a ms.length cap) (.slice (some ⟨b2, o2, none⟩) G.roots.length cap2) (.slice a3 n3 c3) (.int .i64 G.next) (.int .i64 G.seed)
  obtain ⟨z0, z1, z2, z3, z4, _⟩ := five_cells T
  clear href hcell HE T
  generalize G.roots.getD n refD = f at *
  obtain ⟨f0, f1⟩ := f
  by_cases hf : f0 = 2
  · subst hf
    obtain ⟨k0, k1⟩ := refOk_two hrf rfl
    have AT := l6At_any (w := (w.alloc (gb (.slice a ms.length cap) (.slice (some ⟨b2, o2, none⟩) G.roots.length cap2) (.slice a3 n3 c3) G.next G.seed)).drew) (graphAt_below h' B.drew) hl f1
    have k0 : 0 ≤ atI G.objs f1 := k0
    have k1 : atI G.objs f1 < G.objs.length := k1
    show Calls _ _ _ _ fun e w' => e = .returned (.int .i64 (if ((2 : Int) == 2) = true then (G.objs.getD (atI G.objs f1).toNat obD).hash else -1)) ∧ _
    rw [if_pos (show ((2 : Int) == 2) = true from rfl)]
    obtain ⟨K, hK⟩ := Int.eq_ofNat_of_zero_le k0
    have hKl : K < ms.length := by omega
    obtain ⟨b1, o1, rfl, hb1, hce⟩ := hc (by omega)
    have u3 := (B.cell (p := ⟨b1, o1 + K * 5 + 3, none⟩) hb1).trans (hce K hKl).2.2.2.1
    have eh : (ms.getD K moD).hash = (G.objs.getD K obD).hash := congrArg Ob.hash (hget K)
    rw [hK] at AT ⊢
    rw [eh] at u3
    rw [Int.toNat_natCast]
    generalize (G.objs.getD K obD).hash = hh at *
    have HB : Hid _ := B
    clear hce hc hM B h' hget hrf eh hK h6 hlen k0 k1
    have p2 : ((2 : Int) != 2) = false := rfl
    go_enter Tryz.func45, Tryz.ntmps45
    go_wp2_with (go_at_call 64; refine (RT _).mono ?_; rintro e w3 ⟨rfl, hw3⟩; rw [hw3]; clear hw3 w3)
    go_region_law (go_simp; go_at_call 68; refine AT.mono ?_; clear AT; rintro e w3 ⟨rfl, hw3⟩; rw [hw3]; clear hw3 w3)
    all_goals go_wp2
    all_goals go_ret
    all_goals exact ⟨rfl, HB.out.drew.alloc HB.out.size _⟩
  · have p2 : (f0 != 2) = true := by simpa using hf
    have e : (if (f0 == 2) = true then (G.objs.getD (atI G.objs f1).toNat obD).hash else -1) = -1 := by
      rw [if_neg (by simpa using hf)]
    show Calls _ _ _ _ fun e w' => e = .returned (.int .i64 (if (f0 == 2) = true then (G.objs.getD (atI G.objs f1).toNat obD).hash else -1)) ∧ _
    rw [e]
    have HB : Hid _ := B
    clear hc hM B h' hget hlen hrf e h6
    go_enter Tryz.func45, Tryz.ntmps45
    go_wp2_with (go_at_call 64; refine (RT _).mono ?_; rintro e w3 ⟨rfl, hw3⟩; rw [hw3]; clear hw3 w3)
    go_ret
    exact ⟨rfl, HB⟩

def gHash (G : Gr) (x : Int) : Int := if gOk G = true then hashAt G x else -1
theorem sGHash_any {w : World} {o r m : Value} {ms : List MO} {G : Gr} (h : GraphAt w o r m ms G) (hs : gSize ms G ≤ 1048576) (x : Int) :
    Calls Tryz.prog 16 #[gv o r m G.next G.seed, .int .i64 x] w fun e w' => e = .returned (.int .i64 (gHash G x)) ∧ Below w.heap.size w w' := by
  have hl : ms.length ≤ 1048576 := by unfold gSize at hs; omega
  obtain ⟨a1, n1, c1, a2, n2, c2, a3, n3, c3, e1, e2, e3⟩ := graphAt_slices h
  subst e1 e2 e3
  have B : Below w.heap.size w (w.alloc (gb (.slice a1 n1 c1) (.slice a2 n2 c2) (.slice a3 n3 c3) G.next G.seed)) := (Below.refl _ w).alloc (Nat.le_refl _) _
  have T := five_new w 27 (.slice a1 n1 c1) (.slice a2 n2 c2) (.slice a3 n3 c3) (.int .i64 G.next) (.int .i64 G.seed)
  have OK := sGraphOk_any (graphAt_below h B) hs
  have HG : Hid _ := h
  have HB : Hid _ := B
  have HT : Hid _ := T
  clear B T h
  cases d : gOk G
  · have e : gHash G x = -1 := by unfold gHash; rw [d]; rfl
    rw [e]
    rw [d] at OK
    clear e HT HG
    go_enter Tryz.func16, Tryz.ntmps16
    go_wp2_with (go_at_call 18; refine OK.mono ?_; clear OK; rintro e w3 ⟨rfl, b3⟩; have HB3 : Hid _ := HB.out.trans (b3.mono HB.out.size); clear b3)
    go_ret
    exact ⟨rfl, HB3⟩
  · have e : gHash G x = hashAt G x := by unfold gHash; rw [d]; rfl
    rw [e]
    have HD : Hid _ := d
    rw [d] at OK
    clear e d
    go_enter Tryz.func16, Tryz.ntmps16
    go_wp2_with fail
    generalize (w.alloc (gb (.slice a1 n1 c1) (.slice a2 n2 c2) (.slice a3 n3 c3) G.next G.seed)) = X at *
    refine OK.mono ?_
    rintro e w3 ⟨rfl, b3⟩
    have B3 := HB.out.trans (b3.mono HB.out.size)
    have T3 := five_below HT.out b3
    have HH := l6Hash_any (graphAt_below HG.out B3) hl HD.out x
    obtain ⟨z0, z1, z2, z3, z4, _⟩ := five_cells T3
    have HB3 : Hid _ := B3
    clear OK b3 B3 T3 HT HB
    go_wp2_with (go_at_call 45; refine HH.mono ?_; clear HH; rintro e w4 ⟨rfl, b4⟩; have HB4 : Hid _ := HB3.out.trans (b4.mono HB3.out.size); clear b4)
    go_ret
    exact ⟨rfl, HB4⟩
end Go.Proofs.YtcboojhabolcbaaGreatDoor.gr
