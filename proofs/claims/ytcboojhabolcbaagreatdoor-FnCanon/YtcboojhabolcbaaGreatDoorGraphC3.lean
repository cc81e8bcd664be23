/-
  Chapter 6 as the specification has it: a graph copied whole.
  Made from the template GraphC3.
-/
import Derived.Test.YtcboojhabolcbaaGreatDoorGraphC2
import Derived.Test.YtcboojhabolcbaaGreatDoorM7
import Derived.Deep.Cut
import Derived.Deep.CutRange
import Derived.Lib.Hide
import Derived.Deep.AppendLies
namespace Go.Proofs.YtcboojhabolcbaaGreatDoor.gr
open Go.RowKit rows heads region
set_option maxRecDepth 100000

theorem wpList_app0 {w : World} {ops : Array Oper} {rest : List Oper} {o : Oper} {act : Act} {Q : Exit → Act → World → Prop} {g : Nat} {a : Option Addr} {n cap : Nat} {es : List Rf}
    (h : RefsAt w (.slice a n cap) es) (hl : n ≤ 1048576) (hg : w.heap[g]? = some (.cells #[] 31 (0, 0))) (hgd : o.guard = none) (s x : Operand) (ho : o.op = .call { callee := .builtin .append, args := #[s, x], argTypes := #[25, 25] })
    (hs : act.eval s = .slice (some ⟨g, 0, none⟩) 0 0) (hx : act.eval x = .slice a n cap)
    (k : ∀ q c w', (q = g ∨ w.heap.size ≤ q) → (∀ base, base ≤ q → OwnR w' base (.slice (some ⟨q, 0, none⟩) n c) es) → Below w.heap.size w w' → wpList Tryz.prog ops Q rest (act.put o.dst (.slice (some ⟨q, 0, none⟩) n c)) w') :
    wpList Tryz.prog ops Q (o :: rest) act w := by
  refine wpList_plain hgd fun K hK => ?_
  obtain ⟨q, c, w', hr, h1, h2, h3⟩ := run_app0 h hl hg o.type
  unfold Oper.wp execOp
  simp only [ho, resolve, invoke, builtin, Sem.run_bind, Sem.run_pure, Result.andThen_ok, List.map_toArray, List.map_cons, List.map_nil, hs, hx, hr]
  exact hK _ _ (k q c w' h1 h2 h3)

/-- The graph with its first k objects. -/
def upto (G : Gr) (k : Nat) : Gr := { G with objs := G.objs.take k }
theorem upto_all (G : Gr) : upto G G.objs.length = G := by unfold upto; rw [List.take_length]
theorem done_held {n0 : Nat} {G : Gr} {w : World} {B q1 c1 q2 c2 : Nat} (h1 : n0 ≤ B) (h4 : B ≠ q1) (h5 : B ≠ q2) (h6 : q1 ≠ q2)
    (T : Five w B 27 (.slice none 0 0) (.slice (some ⟨q1, 0, none⟩) G.roots.length c1) (.slice (some ⟨q2, 0, none⟩) G.mourned.length c2) (.int .i64 G.next) (.int .i64 G.seed)) (O1 : OwnR w n0 (.slice (some ⟨q1, 0, none⟩) G.roots.length c1) G.roots) (O2 : OwnR w n0 (.slice (some ⟨q2, 0, none⟩) G.mourned.length c2) G.mourned) : Held w n0 B (upto G 0) := by
  refine ⟨_, _, _, [], T, ⟨by simp [upto], ownO_nil w n0, O1, O2, ?_⟩, ?_, h1⟩
  · have e : blk (.slice none 0 0) = [] := rfl
    simp [gblk, blk_some, blks, e, h6]
  · have e : blk (.slice none 0 0) = [] := rfl
    simp [gblk, blk_some, blks, e, h4, h5]
theorem ownRow_form {w : World} {base n : Nat} {v : Value} {xs : List Value} (h : w.ownsRow base 47 5 v n xs) (hn : 0 < n) : ∃ g c, v = .slice (some ⟨g, 0, none⟩) n c := by
  obtain ⟨_, ⟨_, h0⟩ | ⟨g, cap, cur, h1, _⟩⟩ := h
  · omega
  · exact ⟨g, cap, h1⟩

set_option maxHeartbeats 8000000 in
theorem l6Copy_any {w : World} {o r m : Value} {ms : List MO} {G : Gr} (h : GraphAt w o r m ms G) (hs : gSize ms G ≤ 1048576) :
    Calls Tryz.prog 40 #[gv o r m G.next G.seed] w fun e w' => ∃ o' r' m' ns, e = .returned (gv o' r' m' G.next G.seed) ∧ OwnG w' w.heap.size o' r' m' ns G ∧ Below w.heap.size w w' := by
  have hss := gSize_slots hs
  have hsz : ms.length ≤ 1048576 ∧ G.roots.length ≤ 1048576 ∧ G.mourned.length ≤ 1048576 := by unfold gSize at hs; omega
  obtain ⟨a1, n1, c1, a2, n2, c2, a3, n3, c3, e1, e2, e3⟩ := graphAt_slices h
  subst e1 e2 e3
  have hlen : ms.length = G.objs.length := by rw [← h.1]; simp
  have en2 : G.roots.length = n2 ∧ G.mourned.length = n3 := ⟨(refs_len h.2.2.1).1, (refs_len h.2.2.2).1⟩
  have en1 : n1 = ms.length := by obtain ⟨_, ⟨⟨a, c, e, _⟩, _⟩, _⟩ := h; injection e
  subst en1
  have HSS : Hid _ := hss
  have HLEN : Hid _ := hlen
  have HEN : Hid _ := en2
  have HSZ : Hid _ := hsz
  clear hss hlen en2 hs
  generalize hn0 : w.heap.size = n0 at *
  obtain ⟨X, hX⟩ : ∃ X, X = ((w.alloc (gb (.slice a1 ms.length c1) (.slice a2 n2 c2) (.slice a3 n3 c3) G.next G.seed)).alloc (gb (.slice none 0 0) (.slice none 0 0) (.slice none 0 0) 0 0)) := ⟨_, rfl⟩
  have B0 : Below n0 w X := by rw [hX]; exact ((Below.refl _ w).alloc (by omega) _).alloc (by simp; omega) _
  have TP : Five X n0 27 (.slice a1 ms.length c1) (.slice a2 n2 c2) (.slice a3 n3 c3) (.int .i64 G.next) (.int .i64 G.seed) := by
    rw [hX, ← hn0]
    exact five_below (five_new w _ _ _ _ _ _) ((Below.refl _ _).alloc (Nat.le_refl _) _)
  have TR : Five X (n0 + 1) 27 (.slice none 0 0) (.slice none 0 0) (.slice none 0 0) (.int .i64 0) (.int .i64 0) := by
    have := five_new (w.alloc (gb (.slice a1 ms.length c1) (.slice a2 n2 c2) (.slice a3 n3 c3) G.next G.seed)) 27 (.slice none 0 0) (.slice none 0 0) (.slice none 0 0) (.int .i64 0) (.int .i64 0)
    rw [hX, ← hn0]
    simpa using this
  have sX : X.heap.size = n0 + 2 := by rw [hX]; simp; omega
  have GX := graphAt_below h (by rw [hn0]; exact B0)
  have HTP : Hid _ := TP
  have HTR : Hid _ := TR
  have HB0 : Hid _ := B0
  have HGX : Hid _ := GX
  clear TP TR B0 GX h
  go_enter Tryz.func40, Tryz.ntmps40
  go_wp2_with fail
  rw [← hX]
  clear hX
  go_cut [3] from 6 to 18 (fun v wr => ∃ B : Nat, v = .pointer (some ⟨B, 0, none⟩) ∧ Hid (Held wr (n0 + 2) B (upto G 0)) ∧ Hid (Below (n0 + 2) X wr))
  case first =>
    refine regC (n0 := n0 + 2) (G := G) (by simp) ?_ rfl ⟨_, rfl, rfl, rfl, by simp⟩ ⟨_, rfl, rfl, rfl, by simp⟩ ⟨_, rfl, rfl, rfl, by simp [Region.binds]⟩ ⟨_, rfl, rfl, rfl, by simp [Region.binds]⟩ ⟨_, rfl, rfl, rfl, by simp⟩ ⟨_, rfl, rfl, rfl, by simp⟩ ⟨_, rfl, rfl, rfl, by simp [Region.binds]⟩ ⟨_, rfl, rfl, rfl, by simp [Region.binds]⟩ ⟨_, rfl, rfl, rfl, by simp⟩ ⟨_, rfl, rfl, rfl, by simp [Region.binds]⟩ ⟨_, rfl, rfl, rfl, by simp⟩ ⟨_, rfl, rfl, rfl, by simp [Region.binds]⟩ ⟨_, rfl, rfl, rfl, by simp [Region.binds]⟩ ⟨_, rfl, rfl, rfl, by simp⟩ ⟨_, rfl, rfl, rfl, by simp [Region.binds]⟩ (by simp) rfl HTP.out HGX.out.2.2.1 HGX.out.2.2.2 (by have := HSZ.out; have := HEN.out; omega) (by have := HSZ.out; have := HEN.out; omega) sX.symm ?_
    · intro k o ho e he
      have hk : k < 15 := (Array.getElem?_eq_some_iff.1 ho).1
      rcases (show k = 0 ∨ k = 1 ∨ k = 2 ∨ k = 3 ∨ k = 4 ∨ k = 5 ∨ k = 6 ∨ k = 7 ∨ k = 8 ∨ k = 9 ∨ k = 10 ∨ k = 11 ∨ k = 12 ∨ k = 13 ∨ k = 14 by omega) with rfl | rfl | rfl | rfl | rfl | rfl | rfl | rfl | rfl | rfl | rfl | rfl | rfl | rfl | rfl
      all_goals
        injection ho with ho
        subst ho
        simp at he
        try omega
      all_goals
        first
          | (subst he; decide)
          | (rcases he with rfl | rfl <;> decide)
          | (rcases he with rfl | rfl | rfl <;> decide)
          | (rcases he with rfl | rfl | rfl | rfl <;> decide)
          | (rcases he with rfl | rfl | rfl | rfl | rfl | rfl | rfl | rfl | rfl | rfl | rfl | rfl | rfl | rfl | rfl | rfl <;> decide)
          | (rcases he with rfl | rfl | rfl | rfl | rfl | rfl | rfl | rfl | rfl | rfl | rfl | rfl | rfl | rfl | rfl | rfl | rfl <;> decide)
    · rintro u w' ⟨B, q1, d1, q2, d2, y, hB, hB1, hB2, h1, h2, h3, T, O1, O2⟩ hb
      rename_i J K' HJ HK
      clear hB1 hB2
      exact HK _ _ (Met.intro (HJ _ _ ⟨u 3, u 6, u 7, u 8, u 9, u 10, u 11, u 12, u 13, u 14, u 15, u 16, u 17, u 18, ⟨B, y, done_held hB h1 h2 h3 T O1 O2, by rw [← sX]; exact hb⟩, rfl⟩))
  obtain ⟨B, rfl, HH, HB⟩ := hcut
  have hBB : n0 + 2 ≤ B := by obtain ⟨_, _, _, _, _, _, _, h⟩ := HH.out; exact h
  obtain ⟨i0, hi, hz0, hz1, hz2⟩ := info_parts infoO
  have HI : Hid _ := hi
  have HZ0 : Hid _ := hz0
  have HZ1 : Hid _ := hz1
  have HZ2 : Hid _ := hz2
  clear hi hz0 hz1 hz2
  go_wp2_with fail
  go_loopw [4] (fun p wr => ∃ k : Nat, k ≤ ms.length ∧ p = .int .i64 k ∧ Hid (Held wr (n0 + 2) B (upto G k)) ∧ Hid (Below (n0 + 2) X wr)) (fun p _ => ms.length - (intOf p).toNat)
  case atStart => exact ⟨0, Nat.zero_le _, rfl, HH, HB⟩
  case round =>
    clear HH HB
    obtain ⟨k, hk, rfl, HH, HB⟩ := hrel
    have HGR : Hid _ := graphAt_below HGX.out (by rw [sX]; exact HB.out)
    have TPr : Five wr n0 27 (.slice a1 ms.length c1) (.slice a2 n2 c2) (.slice a3 n3 c3) (.int .i64 G.next) (.int .i64 G.seed) := (HB.out.block n0 (by omega)).trans HTP.out
    obtain ⟨y0, _, _, _, _, _⟩ := five_cells TPr
    have szr : n0 + 2 ≤ wr.heap.size := by have := HB.out.size; omega
    clear TPr
    by_cases hlt : k < ms.length
    · obtain ⟨ea, ⟨⟨ao, co, eo, hlco, hcmo, _, hco⟩, hrefs⟩, _, _⟩ := HGR.out
      injection eo with e1 e2 e3
      subst e1 e3
      have RA := hrefs _ (mem_getD hlt)
      obtain ⟨b, off, rfl, hb, hcc⟩ := hco (by omega)
      obtain ⟨x0, x1, x2, x3, x4⟩ := hcc k hlt
      obtain ⟨sa, sc, hsv, _⟩ := RA
      have RA := hrefs _ (mem_getD hlt)
      rw [hsv] at RA
      have hsl := HSS.out _ (mem_getD hlt)
      have HAB : Hid (G.objs.getD k obD = (ms.getD k moD).abs) := by show _ = _; rw [← ea, abs_getD]
      obtain ⟨o', r', m', ns, T, O, N, _⟩ := HH.out
      have HT : Hid _ := T
      have HO : Hid _ := O
      have HN : Hid _ := N
      have HR : Hid _ := RA
      clear T O N RA hcc hco hrefs ea HGR HH hcmo hlco
      generalize hxx : ms.getD k moD = x at *
      obtain ⟨xi, xc, xf, xh, xv, xs⟩ := x
      simp only at hsv hsl HAB
      subst hsv
      clear hxx
      -- the object's own block, and an empty list
      obtain ⟨Y, hY⟩ : ∃ Y, Y = (wr.alloc (ob ⟨xi, xc, xf, xh, .slice sa xs.length sc, xs⟩)).alloc (.cells #[] 31) := ⟨_, rfl⟩
      have BY : Below wr.heap.size wr Y := by rw [hY]; exact ((Below.refl _ wr).alloc (Nat.le_refl _) _).alloc (by simp) _
      have TY : Five Y wr.heap.size 47 (.int .i64 xi) (.int .i64 xc) (.int .i64 xf) (.int .i64 xh) (.slice sa xs.length sc) := by rw [hY]; exact five_below (five_new wr _ _ _ _ _ _) ((Below.refl _ _).alloc (Nat.le_refl _) _)
      have EY : Y.heap[wr.heap.size + 1]? = some (.cells #[] 31 (0, 0)) := by
        have := heap_alloc_new (wr.alloc (ob ⟨xi, xc, xf, xh, .slice sa xs.length sc, xs⟩)) (.cells #[] 31)
        rw [hY]
        simpa using this
      have RY := refsAt_below HR.out BY
      have sY : Y.heap.size = wr.heap.size + 2 := by rw [hY]; simp
      have HTY : Hid _ := TY
      have HBY : Hid _ := BY
      have HEY : Hid _ := EY
      have HRY : Hid _ := RY
      have HSY : Hid _ := sY
      clear TY BY EY RY HR sY
      go_wp2_with (at_builtin; rw [← hY]; refine wpList_app0 HRY.out hsl HEY.out rfl _ _ rfl rfl rfl ?_; intro q c w7 hq hO7 hb7; refine Hid.out ?_)
      have hns : ns.length ≤ k := by
        have := congrArg List.length HO.out.1
        have hl := HLEN.out
        simp only [List.length_map, upto, List.length_take] at this
        omega
      have sY := HSY.out
      have b7 := HBY.out.trans (hb7.mono (by omega))
      have T7 := five_below HTY.out hb7
      have CH7 := one_ch w7 wr.heap.size 4 (.slice (some ⟨q, 0, none⟩) xs.length c)
      have T8 := five_set4 T7 (.slice (some ⟨q, 0, none⟩) xs.length c)
      have hqr : wr.heap.size + 1 ≤ q := by omega
      have s7 := b7.size
      have O7 := row_ch (hO7 (n0 + 2) (by omega)) CH7 (fun x hx e => by
        rw [blk_some, List.mem_singleton] at hx
        rw [List.mem_singleton] at e
        omega)
      have b8 : Below wr.heap.size wr (w7.setCell ⟨wr.heap.size, 4, none⟩ (.slice (some ⟨q, 0, none⟩) xs.length c)) := b7.setCell (p := ⟨wr.heap.size, 4, none⟩) (Nat.le_refl _) _
      have hoo : ∃ a n c, o' = .slice a n c := by obtain ⟨⟨a, c, e, _⟩, _⟩ := ownO_at HO.out.2.1; exact ⟨a, _, c, e⟩
      obtain ⟨oa, on, oc, rfl⟩ := hoo
      obtain ⟨u0, _, _, _, _, _⟩ := five_cells (five_below HT.out b8)
      obtain ⟨t0, t1, t2, t3, t4, tf⟩ := five_cells T7
      have tf4 := tf 4
      obtain ⟨s0, s1, s2, s3, s4, _⟩ := five_cells T8
      obtain ⟨W9, hW9⟩ : ∃ W9, W9 = (w7.setCell ⟨wr.heap.size, 4, none⟩ (.slice (some ⟨q, 0, none⟩) xs.length c)).alloc (.cells #[.int .i64 xi, .int .i64 xc, .int .i64 xf, .int .i64 xh, .slice (some ⟨q, 0, none⟩) xs.length c] 47) := ⟨_, rfl⟩
      have B9 : Below wr.heap.size wr W9 := by rw [hW9]; exact b8.alloc b8.size _
      have O9 := ownG_below HO.out B9
      have R9 : OwnR W9 (n0 + 2) (.slice (some ⟨q, 0, none⟩) xs.length c) xs := by rw [hW9]; exact ownR_below O7 ((Below.refl _ _).alloc (Nat.le_refl _) _)
      have s9 : (w7.setCell ⟨wr.heap.size, 4, none⟩ (.slice (some ⟨q, 0, none⟩) xs.length c)).heap.size = w7.heap.size := by simp
      have HNW : Hid (∀ j u, (cellsO [⟨xi, xc, xf, xh, .slice (some ⟨q, 0, none⟩) xs.length c, xs⟩])[j]? = some u → W9.cell? ((⟨w7.heap.size, 0, none⟩ : Addr).add j) = some u) := by
        rw [hW9]
        have := World.news_of_block (heap_alloc_new (w7.setCell ⟨wr.heap.size, 4, none⟩ (.slice (some ⟨q, 0, none⟩) xs.length c)) (.cells #[.int .i64 xi, .int .i64 xc, .int .i64 xf, .int .i64 xh, .slice (some ⟨q, 0, none⟩) xs.length c] 47))
        rw [s9] at this
        exact this
      have HON : Hid (∀ u ∈ cellsO [⟨xi, xc, xf, xh, .slice (some ⟨q, 0, none⟩) xs.length c, xs⟩], u.oneCell' = true) := cellsO_one (fun m hm => by rw [List.mem_singleton] at hm; rw [hm]; exact ⟨_, _, _, rfl⟩)
      have HAP : Hid (∀ v' w10, w10.ownsRow (n0 + 2) 47 5 v' (ns.length + 1) (cellsO ns ++ cellsO [⟨xi, xc, xf, xh, .slice (some ⟨q, 0, none⟩) xs.length c, xs⟩]) → W9.grownBy w10 (Value.slice oa on oc).ownBlock → (v'.ownBlock = (Value.slice oa on oc).ownBlock ∨ v'.ownBlock = some W9.heap.size) → _) := fun v' w10 h1 h2 h3 => ownG_app O9 R9 (fun x hx e => by
        rw [blk_some, List.mem_singleton] at hx
        have := (ownG_lt HO.out x e).2
        omega) h1 h2 h3
      have HB9 : Hid _ := B9
      have HO9 : Hid _ := O9.2.1.1
      have s9' : n0 + 2 ≤ W9.heap.size := Nat.le_trans szr B9.size
      clear T7 T8 O7 b7 b8 CH7 hO7 hb7 hq HTY HBY HEY HRY HSY B9 O9 R9 tf s9 x0 x1 x2 x3 x4 hY sY
      refine Go.Lib.hid ?_
      go_wp2_with (at_builtin; refine Hid.out ?_)
      refine Go.Lib.hid ?_
      rw [← hW9]
      refine wpList_append_own_at _ rfl _ _ 24 rfl (n0 + 2) 47 i0 (.agg #[.int .i64 0, .int .i64 0, .int .i64 0, .int .i64 0, .slice none 0 0]) 5 56 Tryz.underlying24 HI.out HZ0.out HZ1.out HZ2.out rfl (by decide) (.slice oa on oc) ns.length (cellsO ns) rfl HO9.out ⟨w7.heap.size, 0, none⟩ 1 1 (cellsO [⟨xi, xc, xf, xh, .slice (some ⟨q, 0, none⟩) xs.length c, xs⟩]) rfl rfl HNW.out HON.out (by unfold maxLen; omega) (by omega) s9' ?_
      intro v' w10 hown hgrow hnil hat
      obtain ⟨AP, CH, AM⟩ := HAP.out v' w10 hown hgrow hat
      obtain ⟨g', c', rfl⟩ := ownRow_form hown (by omega)
      have T9 := five_below HT.out HB9.out
      have nB : B ∉ blk (.slice oa on oc) := fun e => HN.out (by simp only [gblk, List.mem_append]; exact .inl (.inl (.inl e)))
      have T10 := five_ch T9 CH nB
      obtain ⟨u0', _, _, _, _, uf⟩ := five_cells T10
      have uf0 := uf 0
      have lB := lt_of_block HT.out
      have nB2 : B ∉ gblk (.slice (some ⟨g', 0, none⟩) (ns.length + 1) c') r' m' (ns ++ [⟨xi, xc, xf, xh, .slice (some ⟨q, 0, none⟩) xs.length c, xs⟩]) := fun e => by
        rcases AM B e with e | e | e
        · exact HN.out e
        · rw [blk_some, List.mem_singleton] at e; omega
        · have := HB9.out.size; omega
      have eG : ({ upto G k with objs := (upto G k).objs ++ [(⟨xi, xc, xf, xh, .slice (some ⟨q, 0, none⟩) xs.length c, xs⟩ : MO).abs] } : Gr) = upto G (k + 1) := by
        have hl := HLEN.out
        have et : G.objs.take k ++ [(⟨xi, xc, xf, xh, .slice (some ⟨q, 0, none⟩) xs.length c, xs⟩ : MO).abs] = G.objs.take (k + 1) := by
          rw [List.take_add_one, List.getElem?_eq_getElem (by omega)]
          have := HAB.out
          rw [List.getD_eq_getElem?_getD, List.getElem?_eq_getElem (by omega)] at this
          simp only [Option.getD_some] at this
          rw [this]
          rfl
        show (⟨G.objs.take k ++ [(⟨xi, xc, xf, xh, .slice (some ⟨q, 0, none⟩) xs.length c, xs⟩ : MO).abs], G.roots, G.mourned, G.next, G.seed⟩ : Gr) = ⟨G.objs.take (k + 1), G.roots, G.mourned, G.next, G.seed⟩
        rw [et]
      rw [eG] at AP
      have HHN : Hid (Held (w10.setCell ⟨B, 0, none⟩ (.slice (some ⟨g', 0, none⟩) (ns.length + 1) c')) (n0 + 2) B (upto G (k + 1))) := ⟨_, _, _, _, five_set0 T10 _, ownG_ch AP (one_ch w10 B 0 _) (fun x hx e => nB2 ((List.mem_singleton.1 e) ▸ hx)), nB2, hBB⟩
      have b10 : Below (n0 + 2) X w10 := (HB.out.trans (HB9.out.mono szr)).trans (below_ch CH s9' (fun x hx => (ownG_lt HO.out x (by simp only [gblk, List.mem_append]; exact .inl (.inl (.inl hx)))).1))
      have HBN : Hid (Below (n0 + 2) X (w10.setCell ⟨B, 0, none⟩ (.slice (some ⟨g', 0, none⟩) (ns.length + 1) c'))) := b10.setCell (p := ⟨B, 0, none⟩) hBB _
      clear AP CH AM T9 T10 uf lB nB nB2 eG b10 HAP HNW HON HB9 HO9 hown hgrow hat hnil HN HT HO u0 t0 t1 t2 t3 t4 tf4 s0 s1 s2 s3 s4 hW9
      go_wp2
      exact ⟨⟨k + 1, by omega, by go_num, HHN, HBN⟩, by simp [intOf]; omega⟩
    · have e : k = ms.length := by omega
      subst e
      rw [HLEN.out, upto_all] at HH
      obtain ⟨o', r', m', ns, T, O, N, _⟩ := HH.out
      obtain ⟨a1', n1', c1', a2', n2', c2', a3', n3', c3', e1, e2, e3⟩ := graphAt_slices (ownG_at O)
      subst e1 e2 e3
      have TRr : Five wr (n0 + 1) 27 (.slice none 0 0) (.slice none 0 0) (.slice none 0 0) (.int .i64 0) (.int .i64 0) := (HB.out.block (n0 + 1) (by omega)).trans HTR.out
      have Bw : Below n0 w wr := HB0.out.trans (HB.out.mono (by omega))
      obtain ⟨z0, z1, z2, z3, z4, _⟩ := five_cells T
      obtain ⟨v0, v1, v2, v3, v4, vf⟩ := five_cells TRr
      have g0 := vf 0
      have g1 := vf 1
      have g2 := vf 2
      have g3 := vf 3
      have g4 := vf 4
      have HOW : Hid _ := ownG_base (ownG_ch O (five_other (X := wr) (b := n0 + 1) (.slice a1' n1' c1') (.slice a2' n2' c2') (.slice a3' n3' c3') (.int .i64 G.next) (.int .i64 G.seed)) (fun x hx e => by have := (ownG_lt O x hx).1; rw [List.mem_singleton] at e; omega)) (show n0 ≤ n0 + 2 by omega)
      have HTX : Hid _ := five_sets TRr (.slice a1' n1' c1') (.slice a2' n2' c2') (.slice a3' n3' c3') (.int .i64 G.next) (.int .i64 G.seed)
      have HBX : Hid _ := five_belows Bw (show n0 ≤ n0 + 1 by omega) (.slice a1' n1' c1') (.slice a2' n2' c2') (.slice a3' n3' c3') (.int .i64 G.next) (.int .i64 G.seed)
      clear vf O T N TRr Bw HH HB HGR HGX HTP HTR HB0 HSS HEN HLEN HSZ HI HZ0 HZ1 HZ2
      go_wp2
      exact bodyPost_ret (res_gr rfl rfl HTX.out) rfl ⟨_, _, _, ns, rfl, HOW.out, HBX.out⟩
end Go.Proofs.YtcboojhabolcbaaGreatDoor.gr
