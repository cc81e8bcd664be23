/-
  Chapter 7 as the specification has it: l7Reached and Reached. Chapter 7 as the specification has it: Reached. 'append([]int64{}, list...)': a list of its own, and nothing that there was is changed. A number into a list at a place, as the specification writes it in one statement that draws: by facts. Chapter 7 as the specification has it: l7Grieving. Chapter 7 as the specification has it: Grieving. The laws' comparison of two lists of numbers. The walk of the law FnLeast.
-/
import Derived.Test.YtdogibjgogcdkabM1
import Derived.Laws.AppendOwnNone
import Derived.Test.YtdogibjgogcdkabGraphS2
import Derived.Test.YtdogibjgogcdkabCopied
import Derived.Deep.Upon
import Derived.Below
import Derived.Test.YtdogibjgogcdkabM3
import Derived.Test.YtdogibjgogcdkabObjsX
import Derived.Maps.AppendAt
import Derived.Test.YtdogibjgogcdkabReachG
import Derived.Deep.QuietTactic
import Derived.BigQuiet
import Derived.Test.YtdogibjgogcdkabInts
import Derived.Test.YtdogibjgogcdkabM2
import Derived.Test.YtdogibjgogcdkabGraphS
import Derived.Test.YtdogibjgogcdkabRefsA
import Derived.Test.YtdogibjgogcdkabGraphEd5
namespace Go.Proofs.Ytdogibjgogcdkab.gr
open Go.RowKit rows heads
set_option maxRecDepth 100000
set_option linter.unusedVariables false

/-- append of refs onto a row of the call's own, whatever the other list, as one step of a region that draws. -/
theorem step_appR {ops : Array Oper} {o : Oper} {a : Act} {w : World} {K : Act → World → Prop} {Q : Exit → Act → World → Prop} {E : Prop} (hgd : o.guard = none) (s x : Operand)
    (ho : o.op = .call { callee := .builtin .append, args := #[s, x], argTypes := #[53, 53] })
    (base : Nat) (v : Value) (es : List Rf) (hs : a.eval s = v) (hown : OwnR w base v es) (av : Option Addr) (nv cv : Nat) (fs : List Rf) (hx : a.eval x = .slice av nv cv) (hR : RefsAt w (.slice av nv cv) fs)
    (hb : es.length + fs.length ≤ 1048576) (hbase : base ≤ w.heap.size)
    (h : ∀ v' w', OwnR w' base v' (es ++ fs) → Ch (blk v) w w' → (∀ k ∈ blk v', k ∈ blk v ∨ w.heap.size ≤ k) → K (a.put o.dst v') w') :
    if Region.wanted o (yielded ops a.tmps) = true then Oper.wp Try.prog o a w K Q else E := by
  obtain ⟨i0, hi, hz0, hz1, hz2⟩ := info_parts infoR
  obtain ⟨hn, hnone⟩ := refs_len hR
  cases av with
  | none =>
    have e0 := hnone rfl
    obtain ⟨a', c', e', _, _, h3, _⟩ := id hR
    injection e' with e1 e2 e3
    subst e1 e3
    have ec := h3 rfl
    have ef : fs = [] := List.eq_nil_of_length_eq_zero (by omega)
    subst ec ef e0
    have hw : Region.wanted o (yielded ops a.tmps) = true := by simp [Region.wanted, hgd]
    rw [if_pos hw]
    have hrun := run_append_owned_none (P := Try.prog) (w := w) base 53 o.type 67 i0 2 Try.underlying53 hi v es.length (cellsR es) hown
    have hk := h v w (by rw [List.append_nil]; exact hown) (Ch.refl _ _) (fun k hk => .inl hk)
    unfold Oper.wp
    simp [execOp, ho, resolve, invoke, builtin, hs, hx, hrun, Result.andThen]
    exact hk
  | some ad =>
    subst hn
    refine step_app_at hgd s x 53 ho base 67 i0 (.agg #[.int .i64 0, .int .i64 0]) 2 16 Try.underlying53 hi hz0 hz1 hz2 rfl (by decide) v es.length (cellsR es) hs hown ad fs.length cv (cellsR fs) hx (cellsR_length _) (refs_news hR) (cellsR_one _) (by unfold maxLen; omega) (by omega) hbase ?_
    intro v' w' hrow hg hat
    refine h v' w' (by unfold OwnR; rw [List.length_append, cellsR_append]; exact hrow) (ch_grown hg) fun k hk => ?_
    unfold blk at hk ⊢
    rcases hat with e | e
    · rw [e] at hk; exact .inl hk
    · rw [e] at hk; simp at hk; exact .inr (by omega)
theorem step_app0 {ops : Array Oper} {o : Oper} {act : Act} {w : World} {K : Act → World → Prop} {Q : Exit → Act → World → Prop} {E : Prop} {g : Nat} {a : Option Addr} {n cap : Nat} {es : List Rf}
    (h : RefsAt w (.slice a n cap) es) (hl : n ≤ 1048576) (hg : w.heap[g]? = some (.cells #[] 67 (0, 0))) (hgd : o.guard = none) (s x : Operand) (ho : o.op = .call { callee := .builtin .append, args := #[s, x], argTypes := #[53, 53] })
    (hs : act.eval s = .slice (some ⟨g, 0, none⟩) 0 0) (hx : act.eval x = .slice a n cap)
    (k : ∀ q c w', (q = g ∨ w.heap.size ≤ q) → (∀ base, base ≤ q → OwnR w' base (.slice (some ⟨q, 0, none⟩) n c) es) → Below w.heap.size w w' → K (act.put o.dst (.slice (some ⟨q, 0, none⟩) n c)) w') :
    if Region.wanted o (yielded ops act.tmps) = true then Oper.wp Try.prog o act w K Q else E := by
  have hw : Region.wanted o (yielded ops act.tmps) = true := by simp [Region.wanted, hgd]
  rw [if_pos hw]
  obtain ⟨q, c, w', hr, h1, h2, h3⟩ := run_app0 h hl hg o.type
  unfold Oper.wp
  simp [execOp, ho, resolve, invoke, builtin, hs, hx, hr, Result.andThen]
  exact k q c w' h1 h2 h3
theorem at_newS {X : World} {o : Obj} {k : Nat} (h : k = X.heap.size) : (X.alloc o).heap[k]? = some o := by subst h; exact heap_alloc_new _ _
theorem ints_sl {w : World} {v : Value} {xs : List Int} (h : IntsAt w v xs) : ∃ a n c, v = .slice a n c := by
  obtain ⟨a, c, e, _⟩ := h
  exact ⟨a, _, c, e⟩
/-- How long a slice is. -/
def slen : Value → Nat
  | .slice _ n _ => n
  | _ => 0

set_option maxHeartbeats 16000000 in
theorem l7Reached_any {w : World} {o r m : Value} {ms : List MO} {G : Gr} (h : GraphAt w o r m ms G) (hok : gOk G = true) {zs : List Int} (hz : IsR G zs) :
    Calls Try.prog 118 #[gv o r m G.next G.seed] w fun e w' => ∃ v, e = .returned v ∧ Own w' w.heap.size v zs ∧ Below w.heap.size w w' := by
  obtain ⟨a1, n1, c1, a2, n2, c2, a3, n3, c3, e1, e2, e3⟩ := graphAt_slices h
  subst e1 e2 e3
  have hlen := graphAt_len h
  obtain ⟨h200, h6, h40, hN1, hN2, _⟩ := gOk_len hok
  obtain ⟨hn2, _⟩ := refs_len h.2.2.1
  obtain ⟨hn3, _⟩ := refs_len h.2.2.2
  have B1 : Below w.heap.size w ((w.alloc (gb (.slice a1 n1 c1) (.slice a2 n2 c2) (.slice a3 n3 c3) G.next G.seed)).alloc (.cells #[] 2)) := ((Below.refl _ w).alloc (Nat.le_refl _) _).alloc (by simp) _
  have T1 : Five ((w.alloc (gb (.slice a1 n1 c1) (.slice a2 n2 c2) (.slice a3 n3 c3) G.next G.seed)).alloc (.cells #[] 2)) w.heap.size 55 (.slice a1 n1 c1) (.slice a2 n2 c2) (.slice a3 n3 c3) (.int .i64 G.next) (.int .i64 G.seed) := five_below (five_new w _ _ _ _ _ _) ((Below.refl _ _).alloc (Nat.le_refl _) _)
  have O1 : Own ((w.alloc (gb (.slice a1 n1 c1) (.slice a2 n2 c2) (.slice a3 n3 c3) G.next G.seed)).alloc (.cells #[] 2)) w.heap.size (.slice (some ⟨w.heap.size + 1, 0, none⟩) 0 0) [] := by
    refine ⟨rfl, .inr ⟨w.heap.size + 1, 0, #[], rfl, by omega, ?_, Nat.le_refl _, by decide, rfl, rfl⟩⟩
    exact at_newS (by simp)
  have HG : Hid _ := h
  have HOK : Hid _ := hok
  have HZ : Hid _ := hz
  have HO1 : Hid _ := O1
  have HB1 : Hid _ := B1
  have HT1 : Hid _ := T1
  have sX : w.heap.size + 2 = ((w.alloc (gb (.slice a1 n1 c1) (.slice a2 n2 c2) (.slice a3 n3 c3) G.next G.seed)).alloc (.cells #[] 2)).heap.size := by simp
  clear h hok hz O1 B1 T1
  generalize hgn : G.next = gn at *
  generalize hgs : G.seed = gs at *
  go_enter Try.func118, Try.ntmps118
  go_wp2_with fail
  generalize hX : ((w.alloc (gb (.slice a1 n1 c1) (.slice a2 n2 c2) (.slice a3 n3 c3) gn gs)).alloc (.cells #[] 2)) = X1 at *
  clear hX
  have NL : Below X1.heap.size X1 (X1.alloc (.cells #[] 67)).drew := ((Below.refl _ _).alloc (Nat.le_refl _) _).drew
  obtain ⟨z0, z1, z2, z3, z4, _⟩ := five_cells HT1.out
  obtain ⟨y0, y1, y2, y3, y4, _⟩ := five_cells (five_below HT1.out ((Below.refl _ X1).alloc (Nat.le_refl _) (.cells #[] 67)))
  have HLIT : Hid ((X1.alloc (.cells #[] 67)).drew.heap[X1.heap.size]? = some (.cells #[] 67 (0, 0))) := heap_alloc_new X1 _
  have HRO : Hid (RefsAt (X1.alloc (.cells #[] 67)).drew (.slice a2 n2 c2) G.roots) := refsAt_below HG.out.2.2.1 (HB1.out.trans (NL.mono HB1.out.size))
  have HNL : Hid _ := NL
  clear NL
  go_cut [4] from 12 to 18 (fun v wx => ∃ av nv cv, v = .slice av nv cv ∧ Hid (RefsAt wx (.slice av nv cv) (G.roots ++ G.mourned)) ∧ Hid (Below X1.heap.size X1 wx))
  case first =>
    go_region_law (first
      | (refine step_app0 HRO.out (by omega) HLIT.out rfl (.tmp 12) (.tmp 14) rfl rfl rfl ?_
         intro q c w3 hq hO hb
         have B3 := HNL.out.trans (hb.mono HNL.out.size)
         have hqs : X1.heap.size ≤ q := (by rcases hq with e | e; omega; exact Nat.le_trans HNL.out.size e)
         have OW3 := hO X1.heap.size hqs
         have HM3 : Hid _ := refsAt_below HG.out.2.2.2 (HB1.out.trans (B3.mono HB1.out.size))
         obtain ⟨x0, x1, x2, x3, x4, _⟩ := five_cells (five_below HT1.out B3)
         have HB3 : Hid _ := B3
         have HOW3 : Hid _ := OW3
         have hs3 := B3.size
         clear hq hO hb B3 OW3 hqs)
      | (refine step_appR rfl (.tmp 15) (.tmp 17) rfl X1.heap.size _ G.roots rfl HOW3.out a3 n3 c3 G.mourned rfl HM3.out (by omega) hs3 ?_
         intro v' w4 hO4 hc4 hk4
         obtain ⟨av, nv, cv, rfl⟩ := refs_slice (ownR_refs hO4)
         have HR4 : Hid _ := ownR_refs hO4
         have HB4 : Hid (Below X1.heap.size X1 w4) := HB3.out.trans (below_ch hc4 hs3 (fun k hk => (blk_lt HOW3.out k hk).1))
         clear hO4 hc4 hk4))
    all_goals go_wp2
    all_goals go_meet
    all_goals exact ⟨av, nv, cv, rfl, HR4, HB4⟩
  obtain ⟨av, nv, cv, rfl, HALL, HBX⟩ := hcut
  obtain ⟨X2, hX2⟩ : ∃ X2, X2 = wc := ⟨_, rfl⟩
  subst hX2
  clear z0 z1 z2 z3 z4 y0 y1 y2 y3 y4 HLIT HRO HNL
  obtain ⟨hnv, _⟩ := refs_len HALL.out
  have hLL : (G.roots ++ G.mourned).length ≤ 46 := by rw [List.length_append]; omega
  have HMEM : Hid (∀ r ∈ G.roots ++ G.mourned, r.1 = 2 → ∃ p, Rch G p ∧ (G.objs.getD p obD).id = r.2) := fun r hr h2 => ⟨_, Rch.root r hr (right_ref HOK.out (.inl hr) h2).1, (right_ref HOK.out (.inl hr) h2).2⟩
  have HO2 : Hid (Own X2 w.heap.size (.slice (some ⟨w.heap.size + 1, 0, none⟩) 0 0) []) := own_below HO1.out HBX.out
  have HB2 : Hid (Below w.heap.size w X2) := HB1.out.trans (HBX.out.mono HB1.out.size)
  have HT2 : Hid _ := five_below HT1.out HBX.out
  have sz2 := HB2.out.size
  clear HO1 HB1 HT1 HBX sX
  subst hnv
  generalize hL : G.roots ++ G.mourned = L at *
  obtain ⟨ao, co, eo, _⟩ := HG.out.2.1.1
  injection eo with e1 e2 e3
  subst e1 e2 e3
  have HGL : Hid (∀ xs, Good G xs → xs.length ≤ 100000) := fun xs hx => good_len HOK.out hx
  have HLEN : Hid _ := hlen
  have hms : ms.length ≤ 200 := by omega
  have HLL : Hid _ := hL
  clear hlen hn2 hn3 h6 h40 hL h200 hgn hgs
  go_wp2_with fail
  go_loopw [3, 5] (fun v p wr => ∃ (k : Nat) (vv : Value) (xs : List Int), vv = v ∧ k ≤ L.length ∧ p = .int .i64 k ∧ Own wr w.heap.size vv xs ∧ Good G xs ∧ goesI xs (L.take k) ∧ Below X2.heap.size X2 wr) (fun _ p _ => L.length - (intOf p).toNat)
  case atStart => exact ⟨0, _, [], rfl, Nat.zero_le _, rfl, HO2.out, good_nil G, fun r hr => absurd hr (by simp), Below.refl _ _⟩
  case round =>
    obtain ⟨k, vv, xs, rfl, hk, rfl, hO, hgood, hgo, hB⟩ := hrel
    by_cases hlt : k < L.length
    · obtain ⟨a', cap', e, _, _, _, hc⟩ := refsAt_below HALL.out hB
      injection e with e1 e2 e3
      subst e1 e3
      obtain ⟨b, off, rfl, hb, hcc⟩ := hc (by omega)
      obtain ⟨y0, y1⟩ := hcc k hlt
      have htk := take_next hlt
      have hme : L.getD k refD ∈ L := by rw [List.getD_eq_getElem?_getD, List.getElem?_eq_getElem hlt]; exact List.getElem_mem hlt
      clear hc hcc e2
      generalize L.getD k refD = e0 at *
      obtain ⟨ek, en⟩ := e0
      simp only at y0 y1
      have HO : Hid _ := hO
      have HGD : Hid _ := hgood
      have HGO : Hid _ := hgo
      have HB : Hid _ := hB
      by_cases he : ek = 2
      · subst he
        have hgl := HGL.out xs hgood
        have sB := hB.size
        have PT := l1Put_any hO (by omega) (by omega) en
        have HGP : Hid (Good G (putI en xs)) := by
          obtain ⟨p, hp, e⟩ := HMEM.out _ hme rfl
          exact good_put hgood hp e
        have HGG : Hid (goesI (putI en xs) (L.take (k + 1))) := fun r hr h2 => by
          rw [htk] at hr
          rcases List.mem_append.1 hr with e | e
          · exact mem_putI.2 (.inr (hgo r e h2))
          · rw [List.mem_singleton.1 e]; exact mem_putI.2 (.inl rfl)
        obtain ⟨va, vn, vc, hvv⟩ := ints_sl (own_ints hO)
        subst hvv
        clear hO hgood hgo hB htk hme hgl
        go_wp2_with (go_at_call 154; refine PT.mono ?_; clear PT; rintro e w4 ⟨v4, rfl, o4, b4⟩; obtain ⟨va4, vn4, vc4, rfl⟩ := ints_sl (own_ints o4); have HO4 : Hid _ := o4; have HB4 : Hid _ := HB.out.trans (b4.mono sB); clear o4 b4)
        exact ⟨⟨k + 1, _, _, rfl, by omega, by go_num, HO4.out, HGP.out, HGG.out, HB4.out⟩, by simp [intOf]; omega⟩
      · have he' : (ek == 2) = false := by simpa using he
        have HGG : Hid (goesI xs (L.take (k + 1))) := fun r hr h2 => by
          rw [htk] at hr
          rcases List.mem_append.1 hr with e | e
          · exact hgo r e h2
          · rw [List.mem_singleton.1 e] at h2; exact absurd h2 he
        clear hO hgood hgo hB htk hme he
        go_wp2
        exact ⟨⟨k + 1, vv, xs, rfl, by omega, by go_num, HO.out, HGD.out, HGG.out, HB.out⟩, by simp [intOf]; omega⟩
    · have e : k = L.length := by omega
      subst e
      rw [List.take_length] at hgo
      have HO : Hid _ := hO
      have HGD : Hid _ := hgood
      have HGO : Hid _ := hgo
      have HB : Hid _ := hB
      obtain ⟨va, vn, vc, hvv⟩ := ints_sl (own_ints hO)
      subst hvv
      clear hO hgood hgo hB
      go_wp2_with fail
      go_loopw [3] (fun v wr => ∃ (vv : Value) (xs : List Int), vv = v ∧ Own wr w.heap.size vv xs ∧ Good G xs ∧ goesI xs L ∧ Below X2.heap.size X2 wr) (fun v _ => 100001 - slen v)
      case atStart => exact ⟨_, xs, rfl, HO.out, HGD.out, HGO.out, HB.out⟩
      case round =>
        clear HO HGD HGO HB
        obtain ⟨vv, xs, rfl, hO, hgood, hgo, hB⟩ := hrel
        have hgl := HGL.out xs hgood
        obtain ⟨va, vc, hvv⟩ : ∃ a c, vv = .slice a xs.length c := by
          obtain ⟨a, c, e, _⟩ := own_ints hO
          exact ⟨a, c, e⟩
        subst hvv
        have HO : Hid _ := hO
        have HGD : Hid _ := hgood
        have HGO : Hid _ := hgo
        have HB : Hid _ := hB
        clear hO hgood hgo hB
        go_wp2_with fail
        go_loopw [3, 7] (fun v p wr => ∃ (k : Nat) (vv : Value) (ys : List Int), vv = v ∧ k ≤ ms.length ∧ p = .int .i64 k ∧ Own wr w.heap.size vv ys ∧ Good G ys ∧ goesI ys L ∧ xs.length ≤ ys.length ∧ (ys.length = xs.length → ys = xs ∧ ∀ j, j < k → DoneI G xs j) ∧ Below X2.heap.size X2 wr) (fun _ p _ => ms.length - (intOf p).toNat)
        case atStart => exact ⟨0, _, xs, rfl, Nat.zero_le _, rfl, HO.out, HGD.out, HGO.out, Nat.le_refl _, fun _ => ⟨rfl, fun j hj => by omega⟩, HB.out⟩
        case round =>
          clear HO HGO HB
          obtain ⟨k, vv, ys, rfl, hk, rfl, hO, hgood, hgo, hle, hsame, hB⟩ := hrel
          have hgl2 := HGL.out ys hgood
          obtain ⟨va2, vc2, hvv⟩ : ∃ a c, vv = .slice a ys.length c := by
            obtain ⟨a, c, e, _⟩ := own_ints hO
            exact ⟨a, c, e⟩
          subst hvv
          obtain ⟨q0, _⟩ := five_cells (five_below HT2.out hB)
          have HO : Hid _ := hO
          have HGY : Hid _ := hgood
          have HGO : Hid _ := hgo
          have HSM : Hid _ := hsame
          have HB : Hid _ := hB
          by_cases hlt : k < ms.length
          · obtain ⟨ao, co, eo, _, _, _, hco⟩ := orowAt_below HG.out.2.1.1 (HB2.out.trans (hB.mono sz2))
            injection eo with e1 e2 e3
            subst e1 e3
            obtain ⟨b1, off1, rfl, hb1, hcc1⟩ := hco (by omega)
            obtain ⟨x0, x1, x2, x3, x4⟩ := hcc1 k hlt
            have hmo : (ms.getD k moD).abs = G.objs.getD k obD := graphAt_get HG.out k
            have hsv := refsAt_below (HG.out.2.1.2 _ (mem_getD hlt)) (HB2.out.trans (hB.mono sz2))
            obtain ⟨sa, sc, hsl, _⟩ := id hsv
            have hkG : k < G.objs.length := by rw [← HLEN.out]; exact hlt
            have hs20 : (ms.getD k moD).slots.length ≤ 20 := by
              have := (right_obj HOK.out hkG).2.1
              rw [← hmo] at this
              exact this
            have HFK : Hid (∀ ys, Good G ys → (ms.getD k moD).id ∈ ys → ∀ F, FromOk (ms.getD k moD).abs ys F → F ≤ (ms.getD k moD).slots.length ∧ (∀ r ∈ (ms.getD k moD).slots.drop F, r.1 = 2 → ∃ p, Rch G p ∧ (G.objs.getD p obD).id = r.2) ∧ (goesI ys ((ms.getD k moD).slots.drop F) → DoneI G ys k)) := fun ys hg hin F hF => by
              have hin' : (G.objs.getD k obD).id ∈ ys := by rw [← hmo]; exact hin
              have hF' : FromOk (G.objs.getD k obD) ys F := by rw [← hmo]; exact hF
              have := from_ok HOK.out hkG hg hin' hF'
              rw [← hmo] at this
              exact this
            have HKEY : Hid ((ms.getD k moD).fmt = 2 → 0 < (ms.getD k moD).slots.length) := fun e => by
              have h1 := (right_key HOK.out hkG (by rw [← hmo]; exact e)).1
              rw [← hmo] at h1
              exact h1
            have HFMT : Hid ((ms.getD k moD).fmt = 0 ∨ (ms.getD k moD).fmt = 1 ∨ (ms.getD k moD).fmt = 2) := by
              obtain ⟨_, _, h2, h3⟩ := obOk_lt ((right_of HOK.out).ob k hkG)
              have h4 := hok_true h3
              have e : (ms.getD k moD).fmt = (G.objs.getD k obD).fmt := by rw [← hmo]; rfl
              show _ ∨ _ ∨ _
              omega
            have HNO : Hid ((ms.getD k moD).id ∉ ys → DoneI G ys k) := fun hno hin => absurd (by rw [← hmo] at hin; exact hin) hno
            clear hmo hco hcc1
            generalize ms.getD k moD = mo at *
            obtain ⟨mi, mc, mf, mh, msv, msl⟩ := mo
            simp only at x0 x1 x2 x3 x4 hsl hsv hs20 HFK HKEY HFMT HNO
            subst hsl
            have BY : Below wr.heap.size wr (wr.alloc (ob ⟨mi, mc, mf, mh, .slice sa msl.length sc, msl⟩)) := (Below.refl _ _).alloc (Nat.le_refl _) _
            have TY := five_new wr 72 (.int .i64 mi) (.int .i64 mc) (.int .i64 mf) (.int .i64 mh) (.slice sa msl.length sc)
            have OY := own_below hO BY
            have HS := l1Has_any (own_ints OY) (by omega) mi
            have HBY : Hid _ := hB.trans (BY.mono hB.size)
            have HTY : Hid _ := TY
            have HOY : Hid _ := OY
            have HSVY : Hid _ := refsAt_below hsv BY
            clear hO hgood hgo hsame hB hsv BY TY OY e2
            go_wp2_with fail
            generalize hYY : (wr.alloc (ob ⟨mi, mc, mf, mh, .slice sa msl.length sc, msl⟩)) = Y at *
            generalize hPP : wr.heap.size = P8 at *
            clear hYY
            refine HS.mono ?_
            rintro e w4 ⟨rfl, hw4⟩
            rw [hw4]
            clear HS hw4 q0 x0 x1 x2 x3 x4
            by_cases hin : mi ∈ ys
            · rw [decide_eq_true hin]
              obtain ⟨t0, t1, t2, t3, t4, _⟩ := five_cells HTY.out
              rcases HFMT.out with hf | hf | hf
              · subst hf
                obtain ⟨hFl, hsf, hdf⟩ := HFK.out ys HGY.out hin 0 (.inr (.inl ⟨rfl, rfl⟩))
                have HSF : Hid _ := hsf
                have HDF : Hid _ := hdf
                clear hsf hdf HFK HKEY HFMT HNO
                go_wp2_with fail
                go_loopw [3, 10] (fun v p wr => ∃ (i : Nat) (vv : Value) (us : List Int), vv = v ∧ i ≤ msl.length ∧ 0 ≤ i ∧ p = .int .i64 i ∧ Own wr w.heap.size vv us ∧ Good G us ∧ goesI us L ∧ ys.length ≤ us.length ∧ (us.length = ys.length → us = ys ∧ ∀ j, 0 ≤ j → j < i → (msl.getD j refD).1 = 2 → (msl.getD j refD).2 ∈ ys) ∧ Below X2.heap.size X2 wr ∧ Below Y.heap.size Y wr) (fun _ p _ => msl.length - (intOf p).toNat)
                case atStart => exact ⟨0, _, ys, rfl, hFl, Nat.le_refl _, by go_num, HOY.out, HGY.out, HGO.out, Nat.le_refl _, fun _ => ⟨rfl, fun j h1 h2 => absurd h2 (by omega)⟩, HBY.out, Below.refl _ _⟩
                case round =>
                  obtain ⟨i, vv, us, rfl, hi, hFi, rfl, hO, hgood, hgo, hle2, hsm2, hB, hBY⟩ := hrel
                  have hgl3 := HGL.out us hgood
                  obtain ⟨va3, vc3, hvv⟩ : ∃ a c, vv = .slice a us.length c := by
                    obtain ⟨a, c, e, _⟩ := own_ints hO
                    exact ⟨a, c, e⟩
                  subst hvv
                  obtain ⟨_, _, _, _, t4, _⟩ := five_cells (five_below HTY.out hBY)
                  have HO4 : Hid _ := hO
                  have HG4 : Hid _ := hgood
                  have HGO4 : Hid _ := hgo
                  have HSM4 : Hid _ := hsm2
                  have HB4 : Hid _ := hB
                  have HBY4 : Hid _ := hBY
                  by_cases hlt4 : i < msl.length
                  · obtain ⟨a', cap', e, _, _, _, hc⟩ := refsAt_below HSVY.out hBY
                    injection e with e1 e2 e3
                    subst e1 e3
                    obtain ⟨b4, off4, e4, hb4, hcc4⟩ := hc (by omega)
                    subst e4
                    obtain ⟨y0, y1⟩ := hcc4 i hlt4
                    have hme : msl.getD i refD ∈ msl.drop 0 := by
                      rw [List.getD_eq_getElem?_getD, List.getElem?_eq_getElem hlt4]
                      exact List.mem_iff_getElem.2 ⟨i - 0, by rw [List.length_drop]; omega, by rw [List.getElem_drop]; exact getElem_congr_idx (by omega)⟩
                    have hput := HSF.out _ hme
                    have HNXN : Hid (¬ (msl.getD i refD).1 = 2 → us.length = ys.length → us = ys ∧ ∀ j, 0 ≤ j → j < i + 1 → (msl.getD j refD).1 = 2 → (msl.getD j refD).2 ∈ ys) := fun hn e => by
                      obtain ⟨e1, h1⟩ := HSM4.out e
                      refine ⟨e1, fun j h2 h3 h4 => ?_⟩
                      by_cases ej : j = i
                      · rw [ej] at h4; exact absurd h4 hn
                      · exact h1 j h2 (by omega) h4
                    have HNXY : Hid ((putI (msl.getD i refD).2 us).length = ys.length → putI (msl.getD i refD).2 us = ys ∧ ∀ j, 0 ≤ j → j < i + 1 → (msl.getD j refD).1 = 2 → (msl.getD j refD).2 ∈ ys) := fun e => by
                      have hl := @len_putI (msl.getD i refD).2 us
                      have eu : us.length = ys.length := by omega
                      obtain ⟨e1, h1⟩ := HSM4.out eu
                      have e2 := hl.2.2 (by omega)
                      refine ⟨e2.trans e1, fun j h2 h3 h4 => ?_⟩
                      by_cases ej : j = i
                      · have : (msl.getD i refD).2 ∈ putI (msl.getD i refD).2 us := mem_putI.2 (.inl rfl)
                        rw [e2, e1] at this
                        rw [ej]
                        exact this
                      · exact h1 j h2 (by omega) h4
                    clear hc hcc4 e2 hme
                    generalize msl.getD i refD = e0 at *
                    obtain ⟨ek, en⟩ := e0
                    simp only at y0 y1 hput HNXN HNXY
                    by_cases he : ek = 2
                    · subst he
                      have sB := hB.size
                      have sBY := hBY.size
                      have PT := l1Put_any hO (by omega) (by omega) en
                      have HGP : Hid (Good G (putI en us)) := by
                        obtain ⟨p, hp, e⟩ := hput rfl
                        exact good_put hgood hp e
                      have HGG : Hid (goesI (putI en us) L) := goesI_mono hgo (fun a ha => mem_putI.2 (.inr ha))
                      have HLE : Hid (ys.length ≤ (putI en us).length) := Nat.le_trans hle2 (@len_putI en us).1
                      clear hO hgood hgo hsm2 hB hBY hput HNXN
                      go_wp2_with (go_at_call 154; refine PT.mono ?_; clear PT; rintro e w5 ⟨v5, rfl, o5, b5⟩; obtain ⟨va5, vn5, vc5, rfl⟩ := ints_sl (own_ints o5); have HO5 : Hid _ := o5; have HB5 : Hid _ := HB4.out.trans (b5.mono sB); have HBY5 : Hid _ := HBY4.out.trans (b5.mono sBY); clear o5 b5)
                      exact ⟨⟨i + 1, _, _, rfl, by omega, by omega, by go_num, HO5.out, HGP.out, HGG.out, HLE.out, HNXY.out, HB5.out, HBY5.out⟩, by simp [intOf]; omega⟩
                    · have he' : (ek == 2) = false := by simpa using he
                      have HNX2 : Hid _ := HNXN.out he
                      clear hO hgood hgo hsm2 hB hBY hput HNXN HNXY he
                      go_wp2
                      exact ⟨⟨i + 1, _, us, rfl, by omega, by omega, by go_num, HO4.out, HG4.out, HGO4.out, hle2, HNX2.out, HB4.out, HBY4.out⟩, by simp [intOf]; omega⟩
                  · have e : i = msl.length := by omega
                    subst e
                    have HX : Hid (us.length = xs.length → us = xs ∧ ∀ j, j < k + 1 → DoneI G xs j) := fun e => by
                      obtain ⟨e1, h1⟩ := HSM4.out (by omega)
                      obtain ⟨e2, h2⟩ := HSM.out (by omega)
                      refine ⟨e1.trans e2, fun j hj => ?_⟩
                      by_cases ej : j = k
                      · rw [ej, ← e2]
                        refine HDF.out fun r hr h3 => ?_
                        obtain ⟨n', hn', rfl⟩ := List.getElem_of_mem hr
                        rw [List.length_drop] at hn'
                        rw [List.getElem_drop] at h3 ⊢
                        have hq := h1 (0 + n') (by omega) (by omega)
                        rw [List.getD_eq_getElem?_getD, List.getElem?_eq_getElem (by omega)] at hq
                        exact hq h3
                      · exact h2 j (by omega)
                    clear hO hgood hgo hsm2 hB hBY
                    go_wp2
                    exact ⟨⟨k + 1, _, us, rfl, by omega, by go_num, HO4.out, HG4.out, HGO4.out, by omega, HX.out, HB4.out⟩, by simp [intOf]; omega⟩
              · subst hf
                obtain ⟨hFl, hsf, hdf⟩ := HFK.out ys HGY.out hin msl.length (.inl ⟨rfl, rfl⟩)
                have HSF : Hid _ := hsf
                have HDF : Hid _ := hdf
                clear hsf hdf HFK HKEY HFMT HNO
                go_wp2_with fail
                go_loopw [3, 10] (fun v p wr => ∃ (i : Nat) (vv : Value) (us : List Int), vv = v ∧ i ≤ msl.length ∧ msl.length ≤ i ∧ p = .int .i64 i ∧ Own wr w.heap.size vv us ∧ Good G us ∧ goesI us L ∧ ys.length ≤ us.length ∧ (us.length = ys.length → us = ys ∧ ∀ j, msl.length ≤ j → j < i → (msl.getD j refD).1 = 2 → (msl.getD j refD).2 ∈ ys) ∧ Below X2.heap.size X2 wr ∧ Below Y.heap.size Y wr) (fun _ p _ => msl.length - (intOf p).toNat)
                case atStart => exact ⟨msl.length, _, ys, rfl, hFl, Nat.le_refl _, by go_num, HOY.out, HGY.out, HGO.out, Nat.le_refl _, fun _ => ⟨rfl, fun j h1 h2 => absurd h2 (by omega)⟩, HBY.out, Below.refl _ _⟩
                case round =>
                  obtain ⟨i, vv, us, rfl, hi, hFi, rfl, hO, hgood, hgo, hle2, hsm2, hB, hBY⟩ := hrel
                  have hgl3 := HGL.out us hgood
                  obtain ⟨va3, vc3, hvv⟩ : ∃ a c, vv = .slice a us.length c := by
                    obtain ⟨a, c, e, _⟩ := own_ints hO
                    exact ⟨a, c, e⟩
                  subst hvv
                  obtain ⟨_, _, _, _, t4, _⟩ := five_cells (five_below HTY.out hBY)
                  have HO4 : Hid _ := hO
                  have HG4 : Hid _ := hgood
                  have HGO4 : Hid _ := hgo
                  have HSM4 : Hid _ := hsm2
                  have HB4 : Hid _ := hB
                  have HBY4 : Hid _ := hBY
                  by_cases hlt4 : i < msl.length
                  · exact absurd hlt4 (by omega)
                  · have e : i = msl.length := by omega
                    subst e
                    have HX : Hid (us.length = xs.length → us = xs ∧ ∀ j, j < k + 1 → DoneI G xs j) := fun e => by
                      obtain ⟨e1, h1⟩ := HSM4.out (by omega)
                      obtain ⟨e2, h2⟩ := HSM.out (by omega)
                      refine ⟨e1.trans e2, fun j hj => ?_⟩
                      by_cases ej : j = k
                      · rw [ej, ← e2]
                        refine HDF.out fun r hr h3 => ?_
                        obtain ⟨n', hn', rfl⟩ := List.getElem_of_mem hr
                        rw [List.length_drop] at hn'
                        rw [List.getElem_drop] at h3 ⊢
                        have hq := h1 (msl.length + n') (by omega) (by omega)
                        rw [List.getD_eq_getElem?_getD, List.getElem?_eq_getElem (by omega)] at hq
                        exact hq h3
                      · exact h2 j (by omega)
                    clear hO hgood hgo hsm2 hB hBY
                    go_wp2
                    exact ⟨⟨k + 1, _, us, rfl, by omega, by go_num, HO4.out, HG4.out, HGO4.out, by omega, HX.out, HB4.out⟩, by simp [intOf]; omega⟩
              · subst hf
                have h0 := HKEY.out rfl
                obtain ⟨a', cap', e, _, _, _, hc⟩ := id HSVY.out
                injection e with e1 e2 e3
                subst e1 e3
                obtain ⟨b0, off0, rfl, hb0, hcc0⟩ := hc h0
                obtain ⟨r0, r1⟩ := hcc0 0 h0
                rw [show off0 + 0 * 2 = off0 by omega] at r0 r1
                clear hc hcc0 e2
                have HK0 : Hid (msl.getD 0 refD = msl.getD 0 refD) := rfl
                obtain ⟨e0, he0⟩ : ∃ e0, msl.getD 0 refD = e0 := ⟨_, rfl⟩
                rw [he0] at r0 r1
                obtain ⟨k0, n0⟩ := e0
                simp only at r0 r1
                have h1n : (1 : Nat) ≤ msl.length := h0
                have HS0 := l1Has_any (own_ints HOY.out) (by omega) n0
                by_cases hk2 : k0 = 2
                · subst hk2
                  by_cases hn0 : n0 ∈ ys
                  · rw [decide_eq_true hn0] at HS0
                    obtain ⟨hFl, hsf, hdf⟩ := HFK.out ys HGY.out hin 1 (.inr (.inr (.inl ⟨rfl, rfl, fun h => h.2 (by show (msl.getD 0 refD).2 ∈ ys; rw [he0]; exact hn0)⟩)))
                    have HSF : Hid _ := hsf
                    have HDF : Hid _ := hdf
                    clear hsf hdf HFK HKEY HFMT HNO
                    go_wp2_with (go_at_call 155; refine HS0.mono ?_; clear HS0; rintro e w5 ⟨rfl, hw5⟩; rw [hw5]; clear hw5)
                    go_loopw [3, 10] (fun v p wr => ∃ (i : Nat) (vv : Value) (us : List Int), vv = v ∧ i ≤ msl.length ∧ 1 ≤ i ∧ p = .int .i64 i ∧ Own wr w.heap.size vv us ∧ Good G us ∧ goesI us L ∧ ys.length ≤ us.length ∧ (us.length = ys.length → us = ys ∧ ∀ j, 1 ≤ j → j < i → (msl.getD j refD).1 = 2 → (msl.getD j refD).2 ∈ ys) ∧ Below X2.heap.size X2 wr ∧ Below Y.heap.size Y wr) (fun _ p _ => msl.length - (intOf p).toNat)
                    case atStart => exact ⟨1, _, ys, rfl, hFl, Nat.le_refl _, by go_num, HOY.out, HGY.out, HGO.out, Nat.le_refl _, fun _ => ⟨rfl, fun j h1 h2 => absurd h2 (by omega)⟩, HBY.out, Below.refl _ _⟩
                    case round =>
                      obtain ⟨i, vv, us, rfl, hi, hFi, rfl, hO, hgood, hgo, hle2, hsm2, hB, hBY⟩ := hrel
                      have hgl3 := HGL.out us hgood
                      obtain ⟨va3, vc3, hvv⟩ : ∃ a c, vv = .slice a us.length c := by
                        obtain ⟨a, c, e, _⟩ := own_ints hO
                        exact ⟨a, c, e⟩
                      subst hvv
                      obtain ⟨_, _, _, _, t4, _⟩ := five_cells (five_below HTY.out hBY)
                      have HO4 : Hid _ := hO
                      have HG4 : Hid _ := hgood
                      have HGO4 : Hid _ := hgo
                      have HSM4 : Hid _ := hsm2
                      have HB4 : Hid _ := hB
                      have HBY4 : Hid _ := hBY
                      by_cases hlt4 : i < msl.length
                      · obtain ⟨a', cap', e, _, _, _, hc⟩ := refsAt_below HSVY.out hBY
                        injection e with e1 e2 e3
                        subst e1 e3
                        obtain ⟨b4, off4, e4, hb4, hcc4⟩ := hc (by omega)
                        injection e4 with e4
                        injection e4 with e5 e6
                        subst e5 e6
                        obtain ⟨y0, y1⟩ := hcc4 i hlt4
                        have hme : msl.getD i refD ∈ msl.drop 1 := by
                          rw [List.getD_eq_getElem?_getD, List.getElem?_eq_getElem hlt4]
                          exact List.mem_iff_getElem.2 ⟨i - 1, by rw [List.length_drop]; omega, by rw [List.getElem_drop]; exact getElem_congr_idx (by omega)⟩
                        have hput := HSF.out _ hme
                        have HNXN : Hid (¬ (msl.getD i refD).1 = 2 → us.length = ys.length → us = ys ∧ ∀ j, 1 ≤ j → j < i + 1 → (msl.getD j refD).1 = 2 → (msl.getD j refD).2 ∈ ys) := fun hn e => by
                          obtain ⟨e1, h1⟩ := HSM4.out e
                          refine ⟨e1, fun j h2 h3 h4 => ?_⟩
                          by_cases ej : j = i
                          · rw [ej] at h4; exact absurd h4 hn
                          · exact h1 j h2 (by omega) h4
                        have HNXY : Hid ((putI (msl.getD i refD).2 us).length = ys.length → putI (msl.getD i refD).2 us = ys ∧ ∀ j, 1 ≤ j → j < i + 1 → (msl.getD j refD).1 = 2 → (msl.getD j refD).2 ∈ ys) := fun e => by
                          have hl := @len_putI (msl.getD i refD).2 us
                          have eu : us.length = ys.length := by omega
                          obtain ⟨e1, h1⟩ := HSM4.out eu
                          have e2 := hl.2.2 (by omega)
                          refine ⟨e2.trans e1, fun j h2 h3 h4 => ?_⟩
                          by_cases ej : j = i
                          · have : (msl.getD i refD).2 ∈ putI (msl.getD i refD).2 us := mem_putI.2 (.inl rfl)
                            rw [e2, e1] at this
                            rw [ej]
                            exact this
                          · exact h1 j h2 (by omega) h4
                        clear hc hcc4 e2 hme
                        generalize msl.getD i refD = e0 at *
                        obtain ⟨ek, en⟩ := e0
                        simp only at y0 y1 hput HNXN HNXY
                        by_cases he : ek = 2
                        · subst he
                          have sB := hB.size
                          have sBY := hBY.size
                          have PT := l1Put_any hO (by omega) (by omega) en
                          have HGP : Hid (Good G (putI en us)) := by
                            obtain ⟨p, hp, e⟩ := hput rfl
                            exact good_put hgood hp e
                          have HGG : Hid (goesI (putI en us) L) := goesI_mono hgo (fun a ha => mem_putI.2 (.inr ha))
                          have HLE : Hid (ys.length ≤ (putI en us).length) := Nat.le_trans hle2 (@len_putI en us).1
                          clear hO hgood hgo hsm2 hB hBY hput HNXN
                          go_wp2_with (go_at_call 154; refine PT.mono ?_; clear PT; rintro e w5 ⟨v5, rfl, o5, b5⟩; obtain ⟨va5, vn5, vc5, rfl⟩ := ints_sl (own_ints o5); have HO5 : Hid _ := o5; have HB5 : Hid _ := HB4.out.trans (b5.mono sB); have HBY5 : Hid _ := HBY4.out.trans (b5.mono sBY); clear o5 b5)
                          exact ⟨⟨i + 1, _, _, rfl, by omega, by omega, by go_num, HO5.out, HGP.out, HGG.out, HLE.out, HNXY.out, HB5.out, HBY5.out⟩, by simp [intOf]; omega⟩
                        · have he' : (ek == 2) = false := by simpa using he
                          have HNX2 : Hid _ := HNXN.out he
                          clear hO hgood hgo hsm2 hB hBY hput HNXN HNXY he
                          go_wp2
                          exact ⟨⟨i + 1, _, us, rfl, by omega, by omega, by go_num, HO4.out, HG4.out, HGO4.out, hle2, HNX2.out, HB4.out, HBY4.out⟩, by simp [intOf]; omega⟩
                      · have e : i = msl.length := by omega
                        subst e
                        have HX : Hid (us.length = xs.length → us = xs ∧ ∀ j, j < k + 1 → DoneI G xs j) := fun e => by
                          obtain ⟨e1, h1⟩ := HSM4.out (by omega)
                          obtain ⟨e2, h2⟩ := HSM.out (by omega)
                          refine ⟨e1.trans e2, fun j hj => ?_⟩
                          by_cases ej : j = k
                          · rw [ej, ← e2]
                            refine HDF.out fun r hr h3 => ?_
                            obtain ⟨n', hn', rfl⟩ := List.getElem_of_mem hr
                            rw [List.length_drop] at hn'
                            rw [List.getElem_drop] at h3 ⊢
                            have hq := h1 (1 + n') (by omega) (by omega)
                            rw [List.getD_eq_getElem?_getD, List.getElem?_eq_getElem (by omega)] at hq
                            exact hq h3
                          · exact h2 j (by omega)
                        clear hO hgood hgo hsm2 hB hBY
                        go_wp2
                        exact ⟨⟨k + 1, _, us, rfl, by omega, by go_num, HO4.out, HG4.out, HGO4.out, by omega, HX.out, HB4.out⟩, by simp [intOf]; omega⟩
                  · rw [decide_eq_false hn0] at HS0
                    obtain ⟨hFl, hsf, hdf⟩ := HFK.out ys HGY.out hin msl.length (.inr (.inr (.inr ⟨rfl, rfl, by show (msl.getD 0 refD).1 = 2; rw [he0], by show (msl.getD 0 refD).2 ∉ ys; rw [he0]; exact hn0⟩)))
                    have HSF : Hid _ := hsf
                    have HDF : Hid _ := hdf
                    clear hsf hdf HFK HKEY HFMT HNO
                    go_wp2_with (go_at_call 155; refine HS0.mono ?_; clear HS0; rintro e w5 ⟨rfl, hw5⟩; rw [hw5]; clear hw5)
                    go_loopw [3, 10] (fun v p wr => ∃ (i : Nat) (vv : Value) (us : List Int), vv = v ∧ i ≤ msl.length ∧ msl.length ≤ i ∧ p = .int .i64 i ∧ Own wr w.heap.size vv us ∧ Good G us ∧ goesI us L ∧ ys.length ≤ us.length ∧ (us.length = ys.length → us = ys ∧ ∀ j, msl.length ≤ j → j < i → (msl.getD j refD).1 = 2 → (msl.getD j refD).2 ∈ ys) ∧ Below X2.heap.size X2 wr ∧ Below Y.heap.size Y wr) (fun _ p _ => msl.length - (intOf p).toNat)
                    case atStart => exact ⟨msl.length, _, ys, rfl, hFl, Nat.le_refl _, by go_num, HOY.out, HGY.out, HGO.out, Nat.le_refl _, fun _ => ⟨rfl, fun j h1 h2 => absurd h2 (by omega)⟩, HBY.out, Below.refl _ _⟩
                    case round =>
                      obtain ⟨i, vv, us, rfl, hi, hFi, rfl, hO, hgood, hgo, hle2, hsm2, hB, hBY⟩ := hrel
                      have hgl3 := HGL.out us hgood
                      obtain ⟨va3, vc3, hvv⟩ : ∃ a c, vv = .slice a us.length c := by
                        obtain ⟨a, c, e, _⟩ := own_ints hO
                        exact ⟨a, c, e⟩
                      subst hvv
                      obtain ⟨_, _, _, _, t4, _⟩ := five_cells (five_below HTY.out hBY)
                      have HO4 : Hid _ := hO
                      have HG4 : Hid _ := hgood
                      have HGO4 : Hid _ := hgo
                      have HSM4 : Hid _ := hsm2
                      have HB4 : Hid _ := hB
                      have HBY4 : Hid _ := hBY
                      by_cases hlt4 : i < msl.length
                      · exact absurd hlt4 (by omega)
                      · have e : i = msl.length := by omega
                        subst e
                        have HX : Hid (us.length = xs.length → us = xs ∧ ∀ j, j < k + 1 → DoneI G xs j) := fun e => by
                          obtain ⟨e1, h1⟩ := HSM4.out (by omega)
                          obtain ⟨e2, h2⟩ := HSM.out (by omega)
                          refine ⟨e1.trans e2, fun j hj => ?_⟩
                          by_cases ej : j = k
                          · rw [ej, ← e2]
                            refine HDF.out fun r hr h3 => ?_
                            obtain ⟨n', hn', rfl⟩ := List.getElem_of_mem hr
                            rw [List.length_drop] at hn'
                            rw [List.getElem_drop] at h3 ⊢
                            have hq := h1 (msl.length + n') (by omega) (by omega)
                            rw [List.getD_eq_getElem?_getD, List.getElem?_eq_getElem (by omega)] at hq
                            exact hq h3
                          · exact h2 j (by omega)
                        clear hO hgood hgo hsm2 hB hBY
                        go_wp2
                        exact ⟨⟨k + 1, _, us, rfl, by omega, by go_num, HO4.out, HG4.out, HGO4.out, by omega, HX.out, HB4.out⟩, by simp [intOf]; omega⟩
                · have hk2' : (k0 == 2) = false := by simpa using hk2
                  obtain ⟨hFl, hsf, hdf⟩ := HFK.out ys HGY.out hin 1 (.inr (.inr (.inl ⟨rfl, rfl, fun h => hk2 (by have := h.1; rw [show (MO.abs ⟨mi, mc, 2, mh, _, msl⟩).slots = msl from rfl, he0] at this; exact this)⟩)))
                  have HSF : Hid _ := hsf
                  have HDF : Hid _ := hdf
                  clear hsf hdf HFK HKEY HFMT HNO
                  go_wp2_with fail
                  go_loopw [3, 10] (fun v p wr => ∃ (i : Nat) (vv : Value) (us : List Int), vv = v ∧ i ≤ msl.length ∧ 1 ≤ i ∧ p = .int .i64 i ∧ Own wr w.heap.size vv us ∧ Good G us ∧ goesI us L ∧ ys.length ≤ us.length ∧ (us.length = ys.length → us = ys ∧ ∀ j, 1 ≤ j → j < i → (msl.getD j refD).1 = 2 → (msl.getD j refD).2 ∈ ys) ∧ Below X2.heap.size X2 wr ∧ Below Y.heap.size Y wr) (fun _ p _ => msl.length - (intOf p).toNat)
                  case atStart => exact ⟨1, _, ys, rfl, hFl, Nat.le_refl _, by go_num, HOY.out, HGY.out, HGO.out, Nat.le_refl _, fun _ => ⟨rfl, fun j h1 h2 => absurd h2 (by omega)⟩, HBY.out, Below.refl _ _⟩
                  case round =>
                    obtain ⟨i, vv, us, rfl, hi, hFi, rfl, hO, hgood, hgo, hle2, hsm2, hB, hBY⟩ := hrel
                    have hgl3 := HGL.out us hgood
                    obtain ⟨va3, vc3, hvv⟩ : ∃ a c, vv = .slice a us.length c := by
                      obtain ⟨a, c, e, _⟩ := own_ints hO
                      exact ⟨a, c, e⟩
                    subst hvv
                    obtain ⟨_, _, _, _, t4, _⟩ := five_cells (five_below HTY.out hBY)
                    have HO4 : Hid _ := hO
                    have HG4 : Hid _ := hgood
                    have HGO4 : Hid _ := hgo
                    have HSM4 : Hid _ := hsm2
                    have HB4 : Hid _ := hB
                    have HBY4 : Hid _ := hBY
                    by_cases hlt4 : i < msl.length
                    · obtain ⟨a', cap', e, _, _, _, hc⟩ := refsAt_below HSVY.out hBY
                      injection e with e1 e2 e3
                      subst e1 e3
                      obtain ⟨b4, off4, e4, hb4, hcc4⟩ := hc (by omega)
                      injection e4 with e4
                      injection e4 with e5 e6
                      subst e5 e6
                      obtain ⟨y0, y1⟩ := hcc4 i hlt4
                      have hme : msl.getD i refD ∈ msl.drop 1 := by
                        rw [List.getD_eq_getElem?_getD, List.getElem?_eq_getElem hlt4]
                        exact List.mem_iff_getElem.2 ⟨i - 1, by rw [List.length_drop]; omega, by rw [List.getElem_drop]; exact getElem_congr_idx (by omega)⟩
                      have hput := HSF.out _ hme
                      have HNXN : Hid (¬ (msl.getD i refD).1 = 2 → us.length = ys.length → us = ys ∧ ∀ j, 1 ≤ j → j < i + 1 → (msl.getD j refD).1 = 2 → (msl.getD j refD).2 ∈ ys) := fun hn e => by
                        obtain ⟨e1, h1⟩ := HSM4.out e
                        refine ⟨e1, fun j h2 h3 h4 => ?_⟩
                        by_cases ej : j = i
                        · rw [ej] at h4; exact absurd h4 hn
                        · exact h1 j h2 (by omega) h4
                      have HNXY : Hid ((putI (msl.getD i refD).2 us).length = ys.length → putI (msl.getD i refD).2 us = ys ∧ ∀ j, 1 ≤ j → j < i + 1 → (msl.getD j refD).1 = 2 → (msl.getD j refD).2 ∈ ys) := fun e => by
                        have hl := @len_putI (msl.getD i refD).2 us
                        have eu : us.length = ys.length := by omega
                        obtain ⟨e1, h1⟩ := HSM4.out eu
                        have e2 := hl.2.2 (by omega)
                        refine ⟨e2.trans e1, fun j h2 h3 h4 => ?_⟩
                        by_cases ej : j = i
                        · have : (msl.getD i refD).2 ∈ putI (msl.getD i refD).2 us := mem_putI.2 (.inl rfl)
                          rw [e2, e1] at this
                          rw [ej]
                          exact this
                        · exact h1 j h2 (by omega) h4
                      clear hc hcc4 e2 hme
                      generalize msl.getD i refD = e0 at *
                      obtain ⟨ek, en⟩ := e0
                      simp only at y0 y1 hput HNXN HNXY
                      by_cases he : ek = 2
                      · subst he
                        have sB := hB.size
                        have sBY := hBY.size
                        have PT := l1Put_any hO (by omega) (by omega) en
                        have HGP : Hid (Good G (putI en us)) := by
                          obtain ⟨p, hp, e⟩ := hput rfl
                          exact good_put hgood hp e
                        have HGG : Hid (goesI (putI en us) L) := goesI_mono hgo (fun a ha => mem_putI.2 (.inr ha))
                        have HLE : Hid (ys.length ≤ (putI en us).length) := Nat.le_trans hle2 (@len_putI en us).1
                        clear hO hgood hgo hsm2 hB hBY hput HNXN
                        go_wp2_with (go_at_call 154; refine PT.mono ?_; clear PT; rintro e w5 ⟨v5, rfl, o5, b5⟩; obtain ⟨va5, vn5, vc5, rfl⟩ := ints_sl (own_ints o5); have HO5 : Hid _ := o5; have HB5 : Hid _ := HB4.out.trans (b5.mono sB); have HBY5 : Hid _ := HBY4.out.trans (b5.mono sBY); clear o5 b5)
                        exact ⟨⟨i + 1, _, _, rfl, by omega, by omega, by go_num, HO5.out, HGP.out, HGG.out, HLE.out, HNXY.out, HB5.out, HBY5.out⟩, by simp [intOf]; omega⟩
                      · have he' : (ek == 2) = false := by simpa using he
                        have HNX2 : Hid _ := HNXN.out he
                        clear hO hgood hgo hsm2 hB hBY hput HNXN HNXY he
                        go_wp2
                        exact ⟨⟨i + 1, _, us, rfl, by omega, by omega, by go_num, HO4.out, HG4.out, HGO4.out, hle2, HNX2.out, HB4.out, HBY4.out⟩, by simp [intOf]; omega⟩
                    · have e : i = msl.length := by omega
                      subst e
                      have HX : Hid (us.length = xs.length → us = xs ∧ ∀ j, j < k + 1 → DoneI G xs j) := fun e => by
                        obtain ⟨e1, h1⟩ := HSM4.out (by omega)
                        obtain ⟨e2, h2⟩ := HSM.out (by omega)
                        refine ⟨e1.trans e2, fun j hj => ?_⟩
                        by_cases ej : j = k
                        · rw [ej, ← e2]
                          refine HDF.out fun r hr h3 => ?_
                          obtain ⟨n', hn', rfl⟩ := List.getElem_of_mem hr
                          rw [List.length_drop] at hn'
                          rw [List.getElem_drop] at h3 ⊢
                          have hq := h1 (1 + n') (by omega) (by omega)
                          rw [List.getD_eq_getElem?_getD, List.getElem?_eq_getElem (by omega)] at hq
                          exact hq h3
                        · exact h2 j (by omega)
                      clear hO hgood hgo hsm2 hB hBY
                      go_wp2
                      exact ⟨⟨k + 1, _, us, rfl, by omega, by go_num, HO4.out, HG4.out, HGO4.out, by omega, HX.out, HB4.out⟩, by simp [intOf]; omega⟩
            · rw [decide_eq_false hin]
              have HX : Hid (ys.length = xs.length → ys = xs ∧ ∀ j, j < k + 1 → DoneI G xs j) := fun e => by
                obtain ⟨e1, h1⟩ := HSM.out e
                refine ⟨e1, fun j hj => ?_⟩
                by_cases ej : j = k
                · rw [ej, ← e1]; exact HNO.out hin
                · exact h1 j (by omega)
              clear hin
              go_wp2
              exact ⟨⟨k + 1, _, ys, rfl, by omega, by go_num, HOY.out, HGY.out, HGO.out, hle, HX.out, HBY.out⟩, by simp [intOf]; omega⟩
          · have e : k = ms.length := by omega
            subst e
            by_cases he : ys.length = xs.length
            · obtain ⟨e1, hd⟩ := hsame he
              subst e1
              have hfin : ys = zs := isR_unique (good_all HOK.out hgood (by rw [HLL.out]; exact hgo) (fun j hj => hd j (by rw [HLEN.out]; exact hj))) HZ.out
              subst hfin
              have HF : Hid (Own wr w.heap.size (.slice va2 ys.length vc2) ys) := hO
              have HFB : Hid (Below w.heap.size w wr) := HB2.out.trans (hB.mono sz2)
              have hll : ((ys.length : Int) == (ys.length : Int)) = true := by simp
              clear hO hgood hgo hsame hB hd he
              go_wp2
              go_ret
              exact ⟨_, rfl, HF.out, HFB.out⟩
            · have hll : ((ys.length : Int) == (xs.length : Int)) = false := by
                rw [beq_eq_false_iff_ne]
                omega
              have hlt2 : xs.length < ys.length := by omega
              clear hO hgood hgo hsame hB
              go_wp2
              exact ⟨⟨_, ys, rfl, HO.out, HGY.out, HGO.out, HB.out⟩, by simp [slen]; omega⟩
end Go.Proofs.Ytdogibjgogcdkab.gr
namespace Go.Proofs.Ytdogibjgogcdkab.gr
open Go.RowKit rows heads
set_option maxRecDepth 100000
set_option linter.unusedVariables false

set_option maxHeartbeats 4000000 in
theorem sReached_any {w : World} {o r m : Value} {ms : List MO} {G : Gr} (h : GraphAt w o r m ms G) (hs : gSize ms G ≤ 1048576) {xs : List Int} (hx : IsReached G xs) :
    Calls Try.prog 47 #[gv o r m G.next G.seed] w fun e w' => ∃ v, e = .returned v ∧ Own w' w.heap.size v xs ∧ Below w.heap.size w w' := by
  obtain ⟨a1, n1, c1, a2, n2, c2, a3, n3, c3, e1, e2, e3⟩ := graphAt_slices h
  subst e1 e2 e3
  have B : Below w.heap.size w (w.alloc (gb (.slice a1 n1 c1) (.slice a2 n2 c2) (.slice a3 n3 c3) G.next G.seed)) := (Below.refl _ w).alloc (Nat.le_refl _) _
  have T := five_new w 55 (.slice a1 n1 c1) (.slice a2 n2 c2) (.slice a3 n3 c3) (.int .i64 G.next) (.int .i64 G.seed)
  have GO := sGraphOk_any (graphAt_below h B) hs
  have HG : Hid _ := h
  have HB : Hid _ := B
  have HT : Hid _ := T
  have HX : Hid _ := hx
  clear h B T hx
  go_enter Try.func47, Try.ntmps47
  go_wp2_with fail
  generalize hX : (w.alloc (gb (.slice a1 n1 c1) (.slice a2 n2 c2) (.slice a3 n3 c3) G.next G.seed)) = X at *
  clear hX
  refine GO.mono ?_
  rintro e w1 ⟨rfl, b1⟩
  have B1 := HB.out.trans (b1.mono HB.out.size)
  have T1 := five_below HT.out b1
  have HB1 : Hid _ := B1
  clear GO HB HT b1
  cases ok : gOk G
  · have hxs : xs = [] := by
      rcases HX.out with ⟨_, e⟩ | ⟨e, _⟩
      · exact e
      · rw [ok] at e; cases e
    subst hxs
    have HF : Hid (Own (w1.alloc (.cells #[] 2)) w.heap.size (.slice (some ⟨w1.heap.size, 0, none⟩) 0 0) []) := ⟨rfl, .inr ⟨w1.heap.size, 0, #[], rfl, B1.size, heap_alloc_new w1 _, Nat.le_refl _, by decide, rfl, rfl⟩⟩
    have HFB : Hid (Below w.heap.size w (w1.alloc (.cells #[] 2))) := B1.alloc B1.size _
    clear B1 T1 HG HX
    go_wp2
    go_ret
    exact ⟨_, rfl, HF.out, HFB.out⟩
  · have hxs : IsR G xs := by
      rcases HX.out with ⟨e, _⟩ | ⟨_, e⟩
      · rw [ok] at e; cases e
      · exact e
    have L7 := l7Reached_any (graphAt_below HG.out B1) ok hxs
    obtain ⟨z0, z1, z2, z3, z4, _⟩ := five_cells T1
    have sz1 := B1.size
    clear B1 T1 HG HX hxs
    go_wp2_with fail
    refine L7.mono ?_
    rintro e w2 ⟨v, rfl, O2, b2⟩
    obtain ⟨va, vn, vc, rfl⟩ := ints_sl (own_ints O2)
    have HF : Hid (Own w2 w.heap.size _ xs) := own_base O2 sz1
    have HFB : Hid _ := HB1.out.trans (b2.mono sz1)
    clear L7 O2 b2
    go_wp2
    go_ret
    exact ⟨_, rfl, HF.out, HFB.out⟩
end Go.Proofs.Ytdogibjgogcdkab.gr
namespace Go.Proofs.Ytdogibjgogcdkab.rows
open Go.RowKit
set_option maxRecDepth 100000

theorem ints_len {w : World} {a : Option Addr} {n cap : Nat} {es : List Int} (h : IntsAt w (.slice a n cap) es) : es.length = n ∧ (a = none → n = 0) := by
  obtain ⟨a', cap', e, h1, _, h2, _⟩ := h
  injection e with e1 e2 e3
  subst e1 e2 e3
  exact ⟨rfl, fun ha => by have := h2 ha; omega⟩
theorem src_ints {w : World} {a : Option Addr} {n cap : Nat} {es : List Int} (h : IntsAt w (.slice a n cap) es) : Src Try.prog 1 24 (.slice a n cap) n (cellsOf es) w := by
  obtain ⟨hl, hz⟩ := ints_len h
  cases a with
  | none =>
    have hn := hz rfl
    have e : es = [] := List.eq_nil_of_length_eq_zero (by omega)
    subst e hn
    exact ⟨.inl ⟨_, Try.underlying24⟩, fun w' => by simp [Builtin.lenOf], by simp [Builtin.firstCells], by simp [Builtin.firstCells], by simp, fun u hu => by simp at hu⟩
  | some ad =>
    have hc : (cellsOf es).length = n * 1 := by simp [hl]
    exact ⟨.inl ⟨_, Try.underlying24⟩, fun w' => by simp [Builtin.lenOf], run_firstCells_some w 1 n ad n cap (cellsOf es) hc (ints_news h), run_firstCells_some w.drew 1 n ad n cap (cellsOf es) hc (ints_news (w := w.drew) h), hc, ints_oneCell _ _⟩

/-- Onto an empty list of no room. -/
theorem run_app0I {w : World} {g : Nat} {a : Option Addr} {n cap : Nat} {es : List Int} (h : IntsAt w (.slice a n cap) es) (hl : n ≤ 1048576) (hg : w.heap[g]? = some (.cells #[] 2 (0, 0))) (ty : TypeId) :
    ∃ (q c : Nat) (w' : World), (Builtin.append_ #[24, 24] ty #[.slice (some ⟨g, 0, none⟩) 0 0, .slice a n cap]).run Try.prog w = .ok (.slice (some ⟨q, 0, none⟩) n c) w' ∧ (q = g ∨ w.heap.size ≤ q) ∧ (∀ base, base ≤ q → w'.ownsRow base 2 1 (.slice (some ⟨q, 0, none⟩) n c) n (cellsOf es)) ∧ Below w.heap.size w w' := by
  obtain ⟨i0, hi, hz0, hz1, hz2⟩ := info_parts info
  have S := src_ints h
  obtain ⟨hlen, _⟩ := ints_len h
  have ho : ∀ {w' : World} {q c base : Nat} (cur : Array Value), base ≤ q → w'.heap[q]? = some (.cells cur 2 (0, 0)) → n ≤ c → c ≤ maxLen → cur.size = c * 1 → cur.toList.take (n * 1) = cellsOf es → w'.ownsRow base 2 1 (.slice (some ⟨q, 0, none⟩) n c) n (cellsOf es) := by
    intro w' q c base cur h1 h2 h3 h4 h5 h6
    exact ⟨by simp [hlen], .inr ⟨q, c, cur, rfl, h1, h2, h3, h4, h5, h6⟩⟩
  rcases Nat.eq_zero_or_pos n with h0 | hp
  · subst h0
    have e : es = [] := List.eq_nil_of_length_eq_zero hlen
    subst e
    have hr := run_append_nothing w 24 24 ty 2 i0 Try.underlying24 hi (some ⟨g, 0, none⟩) 0 0 (Nat.le_refl _) (.slice a 0 cap) (by rw [hz1]; exact S)
    exact ⟨g, 0, w, hr, .inl rfl, fun base hb => ho #[] hb hg (Nat.le_refl _) (by decide) rfl rfl, Below.refl _ _⟩
  · have hold : (Builtin.firstCells i0.size 0 (.slice (some ⟨g, 0, none⟩) 0 0)).run Try.prog w.drew = .ok ([] : List Value).toArray w.drew := run_firstCells_some w.drew i0.size 0 ⟨g, 0, none⟩ 0 0 [] (by simp) (fun j v hj => by simp at hj)
    have hr := run_append_grow_src w 24 24 ty 2 i0 (.int .i64 0) Try.underlying24 hi hz0 (some ⟨g, 0, none⟩) 0 0 [] hold (.slice a n cap) n (cellsOf es) (by rw [hz1]; exact S) (by omega) (by omega) (by rw [hz2]; exact growslice_fits (by omega) (by omega))
    have hge := grownCap_ge w (0 + n) 0 2
    have hcm : grownCap w (0 + n) 0 2 ≤ maxLen := grownCap_le_maxLen w (0 + n) 0 2 (by unfold maxLen; omega)
    rw [Nat.zero_add] at hr hge hcm
    refine ⟨w.heap.size, _, _, hr, .inr (Nat.le_refl _), fun base hb => ho _ hb (heap_alloc_new w.drew _) hge hcm ?_ ?_, ⟨rfl, rfl, rfl, by simp, fun j hj => Below.heap_alloc w.drew _ j hj⟩⟩
    · simp [Builtin.zeroCells, Value.cells, hlen]
      omega
    · simp only [List.nil_append, Array.toList_append]
      exact List.take_left' (by simp [hlen])
end Go.Proofs.Ytdogibjgogcdkab.rows
namespace Go.Proofs.Ytdogibjgogcdkab.gr
open Go.RowKit rows heads region
set_option maxRecDepth 100000
set_option linter.unusedVariables false
set_option linter.unusedSimpArgs false

theorem rq_ld (b k : Nat) (w : World) {x : Int} (h : w.cell? ⟨b, k, none⟩ = some (.int .i64 x)) : (Instr.loadAt 2 (.pointer (some ⟨b, k, none⟩))).run Try.prog w = .ok (.int .i64 x) w := by
  go_simp
theorem rq_nil (w : World) : (Instr.buildSlice 24 0 #[]).run Try.prog w = .ok (.slice (some ⟨w.heap.size, 0, none⟩) 0 0) (w.alloc (.cells #[] 2)) := by
  go_simp
theorem rq_one (x : Int) (w : World) : (Instr.buildSlice 24 1 #[(0, .int .i64 x)]).run Try.prog w = .ok (.slice (some ⟨w.heap.size, 0, none⟩) 1 1) (w.alloc (.cells #[.int .i64 x] 2)) := by
  go_simp
/-- What is known of each slot; what was used up is known no more. -/
def FP (n0 kk m : Nat) (x : Int) (T D : List Int) (lv pv rv fp : Value) (l : Array Bool) (k : Nat) (t : Value) (W : World) : Prop :=
  match k with
  | 0 => ∃ g, t = .slice (some ⟨g, 0, none⟩) 0 0 ∧ n0 ≤ g ∧ (l.getD 4 false = true ∨ W.heap[g]? = some (.cells #[] 2 (0, 0)))
  | 1 => t = lv
  | 2 => t = .int .i64 (kk : Int)
  | 3 => t = pv
  | 4 => l.getD 8 false = true ∨ W.ownsRow n0 2 1 t kk (cellsOf T)
  | 5 => t = fp
  | 6 => t = .int .i64 x
  | 7 => ∃ b, t = .slice (some ⟨b, 0, none⟩) 1 1 ∧ (l.getD 8 false = true ∨ W.heap[b]? = some (.cells #[.int .i64 x] 2 (0, 0)))
  | 8 => l.getD 10 false = true ∨ W.ownsRow n0 2 1 t (kk + 1) (cellsOf T ++ [.int .i64 x])
  | 9 => t = rv
  | 10 => W.ownsRow n0 2 1 t (kk + 1 + m) ((cellsOf T ++ [.int .i64 x]) ++ cellsOf D)
  | _ => False
theorem set_true {l : Array Bool} {k j : Nat} (h : l.getD j false = true) : (l.setIfInBounds k true).getD j false = true := by
  by_cases e : k = j
  · subst e
    have hk : k < l.size := by
      rcases Nat.lt_or_ge k l.size with q | q
      · exact q
      · simp [Array.getD, Nat.not_lt.2 q] at h
    exact listed_ne hk
  · rw [getD_other l e]; exact h
/-- What is known stays known where the world only grows. -/
theorem FP_st {n0 kk m : Nat} {x : Int} {T D : List Int} {lv pv rv fp : Value} {l : Array Bool} (k : Nat) {j : Nat} {t : Value} {W W' : World} (hb : Below W.heap.size W W') (h : FP n0 kk m x T D lv pv rv fp l j t W) : FP n0 kk m x T D lv pv rv fp (l.setIfInBounds k true) j t W' := by
  match j, h with
  | 0, ⟨g, h1, h2, h3⟩ => exact ⟨g, h1, h2, h3.imp set_true (fun e => (hb.block g (lt_of_block e)).trans e)⟩
  | 1, h => exact h
  | 2, h => exact h
  | 3, h => exact h
  | 4, h => exact h.imp set_true (fun e => row_below e hb)
  | 5, h => exact h
  | 6, h => exact h
  | 7, ⟨b, h1, h3⟩ => exact ⟨b, h1, h3.imp set_true (fun e => (hb.block b (lt_of_block e)).trans e)⟩
  | 8, h => exact h.imp set_true (fun e => row_below e hb)
  | 9, h => exact h
  | 10, h => exact row_below h hb
  | _ + 11, h => exact h.elim

set_option maxHeartbeats 8000000 in
theorem regPut {id : Nat} {ops : Array Oper} {a0 : Act} {Q : Exit → Act → World → Prop} {w : World} {s0 ls rs P7 fd kk m : Nat} {x : Int} {T D : List Int} {lv pv rv : Value} {a : Option Addr} {cap gr cr : Nat} (hg : ∀ o ∈ ops, o.guard = none) (hacyc : ∀ (k : Nat) (o : Oper), ops[k]? = some o → ∀ e ∈ o.after, e.on < k) (hn : ops.size = 12)
    (h0 : Has ops 0 (some s0) (.buildSlice 24 0 #[]) [])
    (h1 : Has ops 1 (some (s0 + 1)) (.move (.tmp ls)) [])
    (h2 : Has ops 2 (some (s0 + 2)) (.move (.tmp 8)) [])
    (h3 : Has ops 3 (some (s0 + 3)) (.slice 24 (.tmp (s0 + 1)) none (some (.tmp (s0 + 2))) none) [1, 2])
    (h4 : Has ops 4 (some (s0 + 4)) (.call { callee := .builtin .append, args := #[.tmp s0, .tmp (s0 + 3)], argTypes := #[24, 24] }) [0, 3])
    (h5 : Has ops 5 (some (s0 + 5)) (.fieldAddr 72 (.tmp 7) fd) [])
    (h6 : Has ops 6 (some (s0 + 6)) (.load 2 (.tmp (s0 + 5))) [5])
    (h7 : Has ops 7 (some (s0 + 7)) (.buildSlice 24 1 #[(0, .tmp (s0 + 6))]) [6])
    (h8 : Has ops 8 (some (s0 + 8)) (.call { callee := .builtin .append, args := #[.tmp (s0 + 4), .tmp (s0 + 7)], argTypes := #[24, 24] }) [4, 7])
    (h9 : Has ops 9 (some (s0 + 9)) (.move (.tmp rs)) [])
    (h10 : Has ops 10 (some (s0 + 10)) (.call { callee := .builtin .append, args := #[.tmp (s0 + 8), .tmp (s0 + 9)], argTypes := #[24, 24] }) [8, 9])
    (h11 : Has ops 11 (some ls) (.assign (.tmp (s0 + 10))) [0, 1, 2, 3, 4, 5, 6, 7, 8, 9, 10])
    (hls : ls < s0) (hls8 : ls ≠ 8) (hls7 : ls ≠ 7) (hrs : rs < s0) (hlr : ls ≠ rs) (h8s : 8 < s0) (sz : s0 + 10 < a0.tmps.size)
    (el : a0.tmps.getD ls undef = lv) (e8 : a0.tmps.getD 8 undef = .int .i64 (kk : Int)) (er : a0.tmps.getD rs undef = rv) (e7 : a0.tmps.getD 7 undef = .pointer (some ⟨P7, 0, none⟩))
    (hcut : ∀ W, (Instr.sliceAt 24 lv none (some (.int .i64 (kk : Int))) none).run Try.prog W = .ok pv W)
    (hfa : ∀ W, (Instr.fieldAt 72 (.pointer (some ⟨P7, 0, none⟩)) fd).run Try.prog W = .ok (.pointer (some ⟨P7, fd, none⟩)) W)
    (l7 : P7 < w.heap.size) (n7 : w.cell? ⟨P7, fd, none⟩ = some (.int .i64 x))
    (hpv : pv = .slice a kk cap) (hT : IntsAt w (.slice a kk cap) T) (hrv : rv = .slice (some ⟨gr, 0, none⟩) m cr) (hD : IntsAt w (.slice (some ⟨gr, 0, none⟩) m cr) D) (hkk : kk ≤ 1000) (hm : m ≤ 1000)
    (fin : ∀ u w' v, u ls = v → w'.ownsRow w.heap.size 2 1 v (kk + 1 + m) ((cellsOf T ++ [.int .i64 x]) ++ cellsOf D) → Below w.heap.size w w' → Q .normal (ovr (fun s => s == ls || (decide (s0 ≤ s) && decide (s ≤ s0 + 10))) a0 u) w') :
    (Code.region id ops true).wp Try.prog Q a0 w := by
  obtain ⟨i0, hi0, hz0, hz1, hz2⟩ := info_parts info
  have hin : ∀ j, j ≤ 10 → (fun s => s == ls || (decide (s0 ≤ s) && decide (s ≤ s0 + 10))) (s0 + j) = true := fun j hj => by simp; omega
  refine wp_region_facts (by kernel_rfl) (fun s => s == ls || (decide (s0 ≤ s) && decide (s ≤ s0 + 10))) hg hacyc (fun l u W => (l.getD 11 false = false ∧ Below w.heap.size w W ∧ (l.getD 10 false = true → l.getD 8 false = true) ∧ (l.getD 8 false = true → l.getD 4 false = true) ∧ u ls = lv ∧ ∀ k, k < 11 → l.getD k false = true → FP w.heap.size kk m x T D lv pv rv (.pointer (some ⟨P7, fd, none⟩)) l k (u (s0 + k)) W) ∨ ((∀ k, k < 12 → l.getD k false = true) ∧ Q .normal (ovr (fun s => s == ls || (decide (s0 ≤ s) && decide (s ≤ s0 + 10))) a0 u) W)) (.inl ⟨?_, (Below.refl _ w).drew, fun h => ?_, fun h => ?_, el, fun k hk h => ?_⟩) ?_ ?_
  · simp [Array.getD, hn]
  · simp [Array.getD, hn] at h
  · simp [Array.getD, hn] at h
  · simp [Array.getD, hn, show k < 12 by omega] at h
  · rintro l u W (⟨h1, _⟩ | ⟨_, h⟩) hA
    · rw [hA 11 (by omega)] at h1
      cases h1
    · exact h
  · rintro l u W k o (⟨l11, hB, l108, l84, hul, hF⟩ | ⟨hA, _⟩) hl hlk ho hd
    case inr =>
      have hk : k < 12 := by rw [← hn]; exact (Array.getElem?_eq_some_iff.1 ho).1
      rw [hA k hk] at hlk
      cases hlk
    have hk : k < 12 := by rw [← hn]; exact (Array.getElem?_eq_some_iff.1 ho).1
    have ev : ∀ j, j ≤ 10 → (ovr (fun s => s == ls || (decide (s0 ≤ s) && decide (s ≤ s0 + 10))) a0 u).eval (.tmp (s0 + j)) = u (s0 + j) := fun j hj => eval_in (hin j hj) (Nat.lt_of_le_of_lt (Nat.add_le_add_left hj s0) sz)
    have evo : ∀ s, s < s0 → s ≠ ls → (ovr (fun s => s == ls || (decide (s0 ≤ s) && decide (s ≤ s0 + 10))) a0 u).eval (.tmp s) = a0.tmps.getD s undef := fun s h1 h2 => eval_out (by simp [h2]; omega) (by omega)
    have mono : ∀ {W' : World} {v : Value}, k < 11 → Below W.heap.size W W' → (k = 10 → l.getD 8 false = true) → (k = 8 → l.getD 4 false = true) → FP w.heap.size kk m x T D lv pv rv (.pointer (some ⟨P7, fd, none⟩)) (l.setIfInBounds k true) k v W' → (((l.setIfInBounds k true).getD 11 false = false ∧ Below w.heap.size w W' ∧ ((l.setIfInBounds k true).getD 10 false = true → (l.setIfInBounds k true).getD 8 false = true) ∧ ((l.setIfInBounds k true).getD 8 false = true → (l.setIfInBounds k true).getD 4 false = true) ∧ upd u (s0 + k) v ls = lv ∧ ∀ j, j < 11 → (l.setIfInBounds k true).getD j false = true → FP w.heap.size kk m x T D lv pv rv (.pointer (some ⟨P7, fd, none⟩)) (l.setIfInBounds k true) j (upd u (s0 + k) v (s0 + j)) W') ∨ ((∀ j, j < 12 → (l.setIfInBounds k true).getD j false = true) ∧ Q .normal (ovr (fun s => s == ls || (decide (s0 ≤ s) && decide (s ≤ s0 + 10))) a0 (upd u (s0 + k) v)) W')) := fun {W' v} h11 hb h10 h8' hv => by
      refine .inl ⟨by rw [getD_other l (by omega)]; exact l11, hB.trans (hb.mono hB.size), fun h => ?_, fun h => ?_, by simp [upd, show ¬ ls = s0 + k by omega, hul], fun j hj hlj => ?_⟩
      · by_cases e : k = 10
        · exact set_true (h10 e)
        · rw [getD_other l e] at h; exact set_true (l108 h)
      · by_cases e : k = 8
        · exact set_true (h8' e)
        · rw [getD_other l e] at h; exact set_true (l84 h)
      · by_cases e : j = k
        · subst e
          simp only [upd, if_true]
          exact hv
        · have : ¬ s0 + j = s0 + k := by omega
          simp only [upd, this, if_false]
          rw [getD_other l (Ne.symm e)] at hlj
          exact FP_st k hb (hF j hj hlj)
    rcases (show k = 0 ∨ k = 1 ∨ k = 2 ∨ k = 3 ∨ k = 4 ∨ k = 5 ∨ k = 6 ∨ k = 7 ∨ k = 8 ∨ k = 9 ∨ k = 10 ∨ k = 11 by omega) with rfl | rfl | rfl | rfl | rfl | rfl | rfl | rfl | rfl | rfl | rfl | rfl
    · obtain ⟨hdst, op, dep⟩ := has_at h0 ho hd
      refine wp_value (by simp [execOp, op, rq_nil, Result.andThen]) ⟨_, put_in hdst (hin 0 (by decide)) u _, mono (by decide) ((Below.refl _ W).alloc (Nat.le_refl _) _) (fun e => absurd e (by decide)) (fun e => absurd e (by decide)) ⟨W.heap.size, rfl, hB.size, .inr (heap_alloc_new W _)⟩⟩
    · obtain ⟨hdst, op, dep⟩ := has_at h1 ho hd
      have y : (ovr (fun s => s == ls || (decide (s0 ≤ s) && decide (s ≤ s0 + 10))) a0 u).eval (.tmp ls) = lv := (eval_in (by simp) (by omega)).trans hul
      exact wp_value (w' := W) (by simp [execOp, op, y, Result.andThen]) ⟨_, put_in hdst (hin 1 (by decide)) u _, mono (by decide) (Below.refl _ _) (fun e => absurd e (by decide)) (fun e => absurd e (by decide)) rfl⟩
    · obtain ⟨hdst, op, dep⟩ := has_at h2 ho hd
      have y := (evo 8 (by omega) (by omega)).trans e8
      exact wp_value (w' := W) (by simp [execOp, op, y, Result.andThen]) ⟨_, put_in hdst (hin 2 (by decide)) u _, mono (by decide) (Below.refl _ _) (fun e => absurd e (by decide)) (fun e => absurd e (by decide)) rfl⟩
    · obtain ⟨hdst, op, dep⟩ := has_at h3 ho hd
      have y1 := (ev 1 (by decide)).trans (hF 1 (by decide) (dep 1 (by simp)))
      have y2 := (ev 2 (by decide)).trans (hF 2 (by decide) (dep 2 (by simp)))
      exact wp_value (w' := W) (by simp [execOp, op, y1, y2, hcut, Result.andThen]) ⟨_, put_in hdst (hin 3 (by decide)) u _, mono (by decide) (Below.refl _ _) (fun e => absurd e (by decide)) (fun e => absurd e (by decide)) rfl⟩
    · obtain ⟨hdst, op, dep⟩ := has_at h4 ho hd
      obtain ⟨g, y0, hgn, hlit⟩ := hF 0 (by decide) (dep 0 (by simp))
      have y1 : (ovr (fun s => s == ls || (decide (s0 ≤ s) && decide (s ≤ s0 + 10))) a0 u).eval (.tmp s0) = .slice (some ⟨g, 0, none⟩) 0 0 := (ev 0 (by decide)).trans y0
      have y2 := (ev 3 (by decide)).trans ((hF 3 (by decide) (dep 3 (by simp))).trans hpv)
      have hlit' : W.heap[g]? = some (.cells #[] 2 (0, 0)) := by
        rcases hlit with e | e
        · rw [hlk] at e; cases e
        · exact e
      obtain ⟨q, c, w', hr, hq, hO, hb⟩ := run_app0I (intsAt_below hT hB) (by omega) hlit' o.type
      have hqn : w.heap.size ≤ q := by
        rcases hq with e | e
        · omega
        · exact Nat.le_trans hB.size e
      exact wp_value (w' := w') (by simp [execOp, op, resolve, invoke, builtin, y1, y2, hr, Result.andThen]) ⟨_, put_in hdst (hin 4 (by decide)) u _, mono (by decide) hb (fun e => absurd e (by decide)) (fun e => absurd e (by decide)) (.inr (hO _ hqn))⟩
    · obtain ⟨hdst, op, dep⟩ := has_at h5 ho hd
      have y := (evo 7 (by omega) (by omega)).trans e7
      exact wp_value (w' := W) (by simp [execOp, op, y, hfa, Result.andThen]) ⟨_, put_in hdst (hin 5 (by decide)) u _, mono (by decide) (Below.refl _ _) (fun e => absurd e (by decide)) (fun e => absurd e (by decide)) rfl⟩
    · obtain ⟨hdst, op, dep⟩ := has_at h6 ho hd
      have y := (ev 5 (by decide)).trans (hF 5 (by decide) (dep 5 (by simp)))
      have n7' := (hB.cell (p := ⟨P7, fd, none⟩) l7).trans n7
      exact wp_value (w' := W) (by simp [execOp, op, y, rq_ld P7 fd W n7', Result.andThen]) ⟨_, put_in hdst (hin 6 (by decide)) u _, mono (by decide) (Below.refl _ _) (fun e => absurd e (by decide)) (fun e => absurd e (by decide)) rfl⟩
    · obtain ⟨hdst, op, dep⟩ := has_at h7 ho hd
      have y := (ev 6 (by decide)).trans (hF 6 (by decide) (dep 6 (by simp)))
      exact wp_value (by simp [execOp, op, y, rq_one, Result.andThen]) ⟨_, put_in hdst (hin 7 (by decide)) u _, mono (by decide) ((Below.refl _ W).alloc (Nat.le_refl _) _) (fun e => absurd e (by decide)) (fun e => absurd e (by decide)) ⟨W.heap.size, rfl, .inr (heap_alloc_new W _)⟩⟩
    · obtain ⟨hdst, op, dep⟩ := has_at h8 ho hd
      have l4 := dep 4 (by simp)
      have l7' := dep 7 (by simp)
      have l10 : l.getD 10 false = false := by
        cases e : l.getD 10 false
        · rfl
        · rw [l108 e] at hlk; cases hlk
      have r4 : W.ownsRow w.heap.size 2 1 (u (s0 + 4)) kk (cellsOf T) := by
        rcases hF 4 (by decide) l4 with e | e
        · rw [hlk] at e; cases e
        · exact e
      obtain ⟨b, y0, hlit⟩ := hF 7 (by decide) l7'
      have hlit' : W.heap[b]? = some (.cells #[.int .i64 x] 2 (0, 0)) := by
        rcases hlit with e | e
        · rw [hlk] at e; cases e
        · exact e
      have y1 := ev 4 (by decide)
      have y2 := (ev 7 (by decide)).trans y0
      obtain ⟨v', w', hr, q2, q3, _, q5⟩ := run_append_own_at (P := Try.prog) W w.heap.size 24 o.type 2 i0 (.int .i64 0) 1 8 Try.underlying24 hi0 hz0 hz1 hz2 rfl (by decide) (u (s0 + 4)) kk (cellsOf T) r4 ⟨b, 0, none⟩ 1 1 [.int .i64 x] rfl (fun j u' hj => by
        match j with
        | 0 =>
          simp at hj
          subst hj
          simp [Addr.add, World.cell?, hlit']
        | j + 1 => simp at hj) (by simp [Value.oneCell']) (by unfold maxLen; omega) (by omega) hB.size
      have hbB : Below w.heap.size w w' := hB.trans (below_ch (ch_grown q3) hB.size (fun k hk => (blk_lt r4 k hk).1))
      refine wp_value (w' := w') (v := v') (by simp [execOp, op, resolve, invoke, builtin, y1, y2, hr, Result.andThen]) ⟨_, put_in hdst (hin 8 (by decide)) u _, .inl ⟨by rw [getD_other l (by omega)]; exact l11, hbB, fun h => (by rw [getD_other l (by omega), l10] at h; cases h), fun _ => set_true l4, by simp [upd, show ¬ ls = s0 + 8 by omega, hul], fun j hj hlj => ?_⟩⟩
      by_cases e : j = 8
      · subst e
        simp only [upd, if_true]
        exact .inr q2
      · have hne : ¬ s0 + j = s0 + 8 := by omega
        simp only [upd, hne, if_false]
        rw [getD_other l (Ne.symm e)] at hlj
        have s8 : (l.setIfInBounds 8 true).getD 8 false = true := listed_ne (by omega)
        have hFj := hF j hj hlj
        rcases (show j = 0 ∨ j = 1 ∨ j = 2 ∨ j = 3 ∨ j = 4 ∨ j = 5 ∨ j = 6 ∨ j = 7 ∨ j = 9 ∨ j = 10 by omega) with rfl | rfl | rfl | rfl | rfl | rfl | rfl | rfl | rfl | rfl
        · obtain ⟨g, f1, f2, f3⟩ := hFj; exact ⟨g, f1, f2, .inl (set_true l4)⟩
        · exact hFj
        · exact hFj
        · exact hFj
        · exact .inl s8
        · exact hFj
        · exact hFj
        · obtain ⟨b', f1, f2⟩ := hFj; exact ⟨b', f1, .inl s8⟩
        · exact hFj
        · rw [l10] at hlj; cases hlj
    · obtain ⟨hdst, op, dep⟩ := has_at h9 ho hd
      have y := (evo rs (by omega) (Ne.symm hlr)).trans er
      exact wp_value (w' := W) (by simp [execOp, op, y, Result.andThen]) ⟨_, put_in hdst (hin 9 (by decide)) u _, mono (by decide) (Below.refl _ _) (fun e => absurd e (by decide)) (fun e => absurd e (by decide)) rfl⟩
    · obtain ⟨hdst, op, dep⟩ := has_at h10 ho hd
      have l8 := dep 8 (by simp)
      have l9 := dep 9 (by simp)
      have r8 : W.ownsRow w.heap.size 2 1 (u (s0 + 8)) (kk + 1) (cellsOf T ++ [.int .i64 x]) := by
        rcases hF 8 (by decide) l8 with e | e
        · rw [hlk] at e; cases e
        · exact e
      have y1 := ev 8 (by decide)
      have y2 := (ev 9 (by decide)).trans ((hF 9 (by decide) l9).trans hrv)
      have hDW := intsAt_below hD hB
      obtain ⟨hDl, _⟩ := ints_len hD
      obtain ⟨v', w', hr, q2, q3, _, q5⟩ := run_append_own_at (P := Try.prog) W w.heap.size 24 o.type 2 i0 (.int .i64 0) 1 8 Try.underlying24 hi0 hz0 hz1 hz2 rfl (by decide) (u (s0 + 8)) (kk + 1) (cellsOf T ++ [.int .i64 x]) r8 ⟨gr, 0, none⟩ m cr (cellsOf D) (by simp [hDl]) (ints_news hDW) (ints_oneCell _ _) (by unfold maxLen; omega) (by omega) hB.size
      have hbB : Below w.heap.size w w' := hB.trans (below_ch (ch_grown q3) hB.size (fun k hk => (blk_lt r8 k hk).1))
      refine wp_value (w' := w') (v := v') (by simp [execOp, op, resolve, invoke, builtin, y1, y2, hr, Result.andThen]) ⟨_, put_in hdst (hin 10 (by decide)) u _, .inl ⟨by rw [getD_other l (by omega)]; exact l11, hbB, fun h => set_true l8, fun _ => set_true (l84 l8), by simp [upd, show ¬ ls = s0 + 10 by omega, hul], fun j hj hlj => ?_⟩⟩
      by_cases e : j = 10
      · subst e
        simp only [upd, if_true]
        exact q2
      · have hne : ¬ s0 + j = s0 + 10 := by omega
        simp only [upd, hne, if_false]
        rw [getD_other l (Ne.symm e)] at hlj
        have hFj := hF j hj hlj
        have s10 : (l.setIfInBounds 10 true).getD 10 false = true := listed_ne (by omega)
        have l4 : (l.setIfInBounds 10 true).getD 8 false = true := set_true l8
        rcases (show j = 0 ∨ j = 1 ∨ j = 2 ∨ j = 3 ∨ j = 4 ∨ j = 5 ∨ j = 6 ∨ j = 7 ∨ j = 8 ∨ j = 9 by omega) with rfl | rfl | rfl | rfl | rfl | rfl | rfl | rfl | rfl | rfl
        · obtain ⟨g, f1, f2, f3⟩ := hFj
          exact ⟨g, f1, f2, .inl (set_true (l84 l8))⟩
        · exact hFj
        · exact hFj
        · exact hFj
        · exact .inl l4
        · exact hFj
        · exact hFj
        · obtain ⟨b', f1, f2⟩ := hFj; exact ⟨b', f1, .inl l4⟩
        · exact .inl s10
        · exact hFj
    · obtain ⟨hdst, op, dep⟩ := has_at h11 ho hd
      have r10 := hF 10 (by decide) (dep 10 (by simp))
      have y := ev 10 (by decide)
      refine wp_value (w' := W) (v := u (s0 + 10)) (by simp [execOp, op, y]) ⟨_, put_in hdst (by simp) u _, .inr ⟨fun j hj => ?_, fin _ W (u (s0 + 10)) (by simp [upd]) r10 hB⟩⟩
      by_cases e : j = 11
      · subst e; exact listed_ne (by omega)
      · rw [getD_other l (Ne.symm e)]
        exact dep j (by rcases (show j = 0 ∨ j = 1 ∨ j = 2 ∨ j = 3 ∨ j = 4 ∨ j = 5 ∨ j = 6 ∨ j = 7 ∨ j = 8 ∨ j = 9 ∨ j = 10 by omega) with rfl | rfl | rfl | rfl | rfl | rfl | rfl | rfl | rfl | rfl | rfl <;> decide)
end Go.Proofs.Ytdogibjgogcdkab.gr
namespace Go.Proofs.Ytdogibjgogcdkab.gr
open Go.RowKit rows heads region
set_option maxRecDepth 100000
set_option linter.unusedVariables false

/-- The Ids, the Hashes at these places. -/
abbrev idsG (os : List Ob) (ps : List Nat) : List Int := ps.map fun p => (os.getD p obD).id
abbrev hshG (os : List Ob) (ps : List Nat) : List Int := ps.map fun p => (os.getD p obD).hash
theorem rs_f0 (b : Nat) (w : World) : (Instr.fieldAt 72 (.pointer (some ⟨b, 0, none⟩)) 0).run Try.prog w = .ok (.pointer (some ⟨b, 0, none⟩)) w := by
  go_simp
theorem rs_f3 (b : Nat) (w : World) : (Instr.fieldAt 72 (.pointer (some ⟨b, 0, none⟩)) 3).run Try.prog w = .ok (.pointer (some ⟨b, 3, none⟩)) w := by
  go_simp
theorem rs_cut {g n c i : Nat} (hi : (i : Int) ≤ n) (hc : (n : Int) ≤ c) (hm : c ≤ 9223372036854775807) (w : World) : (Instr.sliceAt 24 (.slice (some ⟨g, 0, none⟩) n c) none (some (.int .i64 (i : Int))) none).run Try.prog w = .ok (.slice (some ⟨g, 0, none⟩) i c) w := by
  have h2 : (i : Int) ≤ c := by omega
  go_simp

set_option maxHeartbeats 16000000 in
theorem l7Grieving_any {w : World} {o r m : Value} {ms : List MO} {G : Gr} (h : GraphAt w o r m ms G) (hok : gOk G = true) {ps : List Nat} (hz : IsG G ps) :
    Calls Try.prog 119 #[gv o r m G.next G.seed] w fun e w' => ∃ v, e = .returned v ∧ Own w' w.heap.size v (idsG G.objs ps) ∧ Below w.heap.size w w' := by
  obtain ⟨f, hf⟩ : ∃ f : Nat → Bool, ∀ p, f p = true ↔ Grv G p := by
    classical
    exact ⟨fun p => decide (Grv G p), fun p => by simp⟩
  have hps : ps = sortG G.objs f G.objs.length := isG_unique hz (isG_sort hok fun p _ => hf p)
  obtain ⟨a1, n1, c1, a2, n2, c2, a3, n3, c3, e1, e2, e3⟩ := graphAt_slices h
  subst e1 e2 e3
  obtain ⟨ao, co, eo, _⟩ := h.2.1.1
  injection eo with e1 e2 e3
  subst e1 e2 e3
  obtain ⟨ys, hy⟩ := isR_ex G
  have B : Below w.heap.size w (w.alloc (gb (.slice a1 ms.length c1) (.slice a2 n2 c2) (.slice a3 n3 c3) G.next G.seed)) := (Below.refl _ w).alloc (Nat.le_refl _) _
  have T := five_new w 55 (.slice a1 ms.length c1) (.slice a2 n2 c2) (.slice a3 n3 c3) (.int .i64 G.next) (.int .i64 G.seed)
  have L7 := l7Reached_any (graphAt_below h B) hok hy
  have hlen := graphAt_len h
  have hms : ms.length ≤ 200 := by rw [hlen]; exact (gOk_len hok).1
  have hyl : ys.length ≤ 200 := Nat.le_trans (isR_len hy) (gOk_len hok).1
  have HG : Hid _ := h
  have HOK : Hid _ := hok
  have HF : Hid _ := hf
  have HPS : Hid _ := hps
  have HY : Hid _ := hy
  have HB : Hid _ := B
  have HT : Hid _ := T
  have HLEN : Hid _ := hlen
  clear h hok hf hps hy B T hlen hz
  go_enter Try.func119, Try.ntmps119
  go_wp2_with fail
  generalize hX : (w.alloc (gb (.slice a1 ms.length c1) (.slice a2 n2 c2) (.slice a3 n3 c3) G.next G.seed)) = X at *
  clear hX
  refine L7.mono ?_
  rintro e w1 ⟨v1, rfl, O1, b1⟩
  obtain ⟨ra, rc, hrv⟩ : ∃ a c, v1 = .slice a ys.length c := by
    obtain ⟨a, c, e, _⟩ := own_ints O1
    exact ⟨a, c, e⟩
  subst hrv
  have B1 := HB.out.trans (b1.mono HB.out.size)
  have T1 := five_below HT.out b1
  have N2 : Below w1.heap.size w1 ((w1.alloc (.cells #[] 2)).alloc (.cells #[] 2)) := ((Below.refl _ _).alloc (Nat.le_refl _) _).alloc (by simp) _
  have HR2 : Hid _ := own_ints (own_below O1 N2)
  have HB2 : Hid _ := B1.trans (N2.mono B1.size)
  have HT2 : Hid _ := five_below T1 N2
  have HO4 : Hid (Own ((w1.alloc (.cells #[] 2)).alloc (.cells #[] 2)) w.heap.size (.slice (some ⟨w1.heap.size, 0, none⟩) 0 0) []) := ⟨rfl, .inr ⟨w1.heap.size, 0, #[], rfl, B1.size, (Below.heap_alloc _ _ _ (by simp)).trans (heap_alloc_new w1 _), Nat.le_refl _, by decide, rfl, rfl⟩⟩
  have HO5 : Hid (Own ((w1.alloc (.cells #[] 2)).alloc (.cells #[] 2)) w.heap.size (.slice (some ⟨w1.heap.size + 1, 0, none⟩) 0 0) []) := ⟨rfl, .inr ⟨w1.heap.size + 1, 0, #[], rfl, Nat.le_succ_of_le B1.size, at_newS (by simp), Nat.le_refl _, by decide, rfl, rfl⟩⟩
  clear L7 HB HT B1 T1 N2 O1 b1
  go_wp2_with fail
  generalize hX2 : ((w1.alloc (.cells #[] 2)).alloc (.cells #[] 2)) = X2 at *
  clear hX2
  go_loopw [4, 5, 6] (fun v u p wr => ∃ (k : Nat) (g4 c4 g5 c5 : Nat), k ≤ ms.length ∧ p = .int .i64 k ∧ v = .slice (some ⟨g4, 0, none⟩) (sortG G.objs f k).length c4 ∧ u = .slice (some ⟨g5, 0, none⟩) (sortG G.objs f k).length c5 ∧ Own wr w.heap.size (.slice (some ⟨g4, 0, none⟩) (sortG G.objs f k).length c4) (idsG G.objs (sortG G.objs f k)) ∧ Own wr w.heap.size (.slice (some ⟨g5, 0, none⟩) (sortG G.objs f k).length c5) (hshG G.objs (sortG G.objs f k)) ∧ Below X2.heap.size X2 wr) (fun _ _ p _ => ms.length - (intOf p).toNat)
  case atStart => exact ⟨0, _, _, _, _, Nat.zero_le _, rfl, rfl, rfl, HO4.out, HO5.out, Below.refl _ _⟩
  case round =>
    clear HO4 HO5
    obtain ⟨k, g4, c4, g5, c5, hk, rfl, rfl, rfl, hO4, hO5, hB⟩ := hrel
    have HO4 : Hid _ := hO4
    have HO5 : Hid _ := hO5
    have HBX : Hid _ := hB
    obtain ⟨q0, _⟩ := five_cells (five_below HT2.out hB)
    by_cases hlt : k < ms.length
    · obtain ⟨ao, co, eo, _, _, _, hco⟩ := orowAt_below HG.out.2.1.1 (HB2.out.trans (hB.mono HB2.out.size))
      injection eo with e1 e2 e3
      subst e1 e3
      obtain ⟨b1, off1, rfl, hb1, hcc1⟩ := hco (by omega)
      obtain ⟨x0, x1, x2, x3, x4⟩ := hcc1 k hlt
      have hmo : (ms.getD k moD).abs = G.objs.getD k obD := graphAt_get HG.out k
      have hsv := refsAt_below (HG.out.2.1.2 _ (mem_getD hlt)) (HB2.out.trans (hB.mono HB2.out.size))
      obtain ⟨sa, sc, hsl, _⟩ := id hsv
      have hkG : k < G.objs.length := by rw [← HLEN.out]; exact hlt
      have hIdM : ∀ q, q < G.objs.length → ((G.objs.getD q obD).id ∈ ys ↔ Rch G q) := fun q hq => by
        rw [isR_mem HY.out]
        constructor
        · rintro ⟨p, hp, e⟩
          rw [rise_inj (gOk_rise HOK.out) (rch_lt hp) hq e] at hp
          exact hp
        · intro hp; exact ⟨q, hp, rfl⟩
      have HKEY : Hid ((ms.getD k moD).fmt = 2 → 0 < (ms.getD k moD).slots.length) := fun e => by
        have h1 := (right_key HOK.out hkG (by rw [← hmo]; exact e)).1
        rw [← hmo] at h1
        exact h1
      have HIN : Hid ((ms.getD k moD).id ∈ ys ↔ Rch G k) := by
        have := hIdM k hkG
        rw [← hmo] at this
        exact this
      have HFM : Hid ((G.objs.getD k obD).fmt = (ms.getD k moD).fmt) := by show _ = _; rw [← hmo]; rfl
      have HHS : Hid ((G.objs.getD k obD).hash = (ms.getD k moD).hash) := by show _ = _; rw [← hmo]; rfl
      have HID : Hid ((G.objs.getD k obD).id = (ms.getD k moD).id) := by show _ = _; rw [← hmo]; rfl
      have HKX : Hid ((ms.getD k moD).fmt = 2 → ((ms.getD k moD).slots.getD 0 refD).1 = 2 → ∃ q, awt G.objs (G.objs.getD k obD) = some q ∧ (((ms.getD k moD).slots.getD 0 refD).2 ∈ ys ↔ Rch G q)) := fun e1 e2 => by
        have hmm := (right_key HOK.out hkG (by rw [← hmo]; exact e1)).2
        have hl := right_ref HOK.out (.inr ⟨k, hkG, hmm⟩) (by rw [← hmo]; exact e2)
        rw [← hmo] at hl
        refine ⟨ledP G.objs ((ms.getD k moD).slots.getD 0 refD), ?_, ?_⟩
        · unfold awt
          rw [← hmo]
          exact if_pos ⟨e1, hl.1⟩
        · have := hIdM _ (ledP_lt hl.1)
          rw [hl.2] at this
          exact this
      have HKN : Hid (¬ ((ms.getD k moD).slots.getD 0 refD).1 = 2 → awt G.objs (G.objs.getD k obD) = none) := fun e => by
        unfold awt
        rw [if_neg]
        rintro ⟨_, h2⟩
        rw [← hmo] at h2
        exact e (led_two h2)
      clear hmo hco hcc1 hIdM
      generalize ms.getD k moD = mo at *
      obtain ⟨mi, mc, mf, mh, msv, msl⟩ := mo
      simp only at x0 x1 x2 x3 x4 hsl hsv HKEY HIN HFM HHS HID HKX HKN
      subst hsl
      have BY : Below wr.heap.size wr (wr.alloc (ob ⟨mi, mc, mf, mh, .slice sa msl.length sc, msl⟩)) := (Below.refl _ _).alloc (Nat.le_refl _) _
      have TY := five_new wr 72 (.int .i64 mi) (.int .i64 mc) (.int .i64 mf) (.int .i64 mh) (.slice sa msl.length sc)
      obtain ⟨t0, t1, t2, t3, t4, _⟩ := five_cells TY
      have HTY : Hid _ := TY
      have HBY : Hid (Below X2.heap.size X2 (wr.alloc (ob ⟨mi, mc, mf, mh, .slice sa msl.length sc, msl⟩))) := hB.trans (BY.mono hB.size)
      have HRY : Hid _ := intsAt_below HR2.out HBY.out
      have HY4 : Hid _ := own_below hO4 BY
      have HY5 : Hid _ := own_below hO5 BY
      have HNO : Hid (f k = false → sortG G.objs f (k + 1) = sortG G.objs f k) := fun e => by
        show (if f k = true then _ else _) = _
        rw [e]
        rfl
      have HYES : Hid (f k = true → sortG G.objs f (k + 1) = insG G.objs k (sortG G.objs f k)) := fun e => by
        show (if f k = true then _ else _) = _
        rw [if_pos e]
      have hsn := len_sortG G.objs f k
      have HFK : Hid _ := HF.out k
      have HSVY : Hid _ := refsAt_below hsv BY
      clear hO4 hO5 hB hsv BY TY e2 hkG
      obtain ⟨ss, hss⟩ : ∃ ss, sortG G.objs f k = ss := ⟨_, rfl⟩
      rw [hss] at hsn
      simp only [hss] at HO4 HO5 HY4 HY5 HNO HYES ⊢
      have HSS : Hid _ := hss
      clear hss
      have HSKIP : Hid (f k = false → ∃ (k' g4' c4' g5' c5' : Nat), k' ≤ ms.length ∧ Value.int .i64 ((k : Int) + 1) = .int .i64 k' ∧ Value.slice (some ⟨g4, 0, none⟩) ss.length c4 = .slice (some ⟨g4', 0, none⟩) (sortG G.objs f k').length c4' ∧ Value.slice (some ⟨g5, 0, none⟩) ss.length c5 = .slice (some ⟨g5', 0, none⟩) (sortG G.objs f k').length c5' ∧ Own (wr.alloc (ob ⟨mi, mc, mf, mh, .slice sa msl.length sc, msl⟩)) w.heap.size (.slice (some ⟨g4', 0, none⟩) (sortG G.objs f k').length c4') (idsG G.objs (sortG G.objs f k')) ∧ Own (wr.alloc (ob ⟨mi, mc, mf, mh, .slice sa msl.length sc, msl⟩)) w.heap.size (.slice (some ⟨g5', 0, none⟩) (sortG G.objs f k').length c5') (hshG G.objs (sortG G.objs f k')) ∧ Below X2.heap.size X2 (wr.alloc (ob ⟨mi, mc, mf, mh, .slice sa msl.length sc, msl⟩))) := fun e => ⟨k + 1, g4, c4, g5, c5, by omega, by simp, by rw [HNO.out e], by rw [HNO.out e], by rw [HNO.out e]; exact HY4.out, by rw [HNO.out e]; exact HY5.out, HBY.out⟩
      by_cases hf2 : mf = 2
      · subst hf2
        by_cases hi1 : mi ∈ ys
        · have HS1 := l1Has_any HRY.out (by omega) mi
          rw [decide_eq_true hi1] at HS1
          have h0 := HKEY.out rfl
          obtain ⟨a', cap', e, _, _, _, hc⟩ := id HSVY.out
          injection e with e1 e2 e3
          subst e1 e3
          obtain ⟨b0, off0, rfl, hb0, hcc0⟩ := hc h0
          obtain ⟨r0, r1⟩ := hcc0 0 h0
          rw [show off0 + 0 * 2 = off0 by omega] at r0 r1
          clear hc hcc0 e2
          have h1n : (1 : Int) ≤ (msl.length : Int) := by omega
          obtain ⟨e0, he0⟩ : ∃ e0, msl.getD 0 refD = e0 := ⟨_, rfl⟩
          rw [he0] at r0 r1
          rw [he0] at HKX HKN
          obtain ⟨k0, nk0⟩ := e0
          simp only at r0 r1 HKX HKN
          by_cases hk2 : k0 = 2
          · subst hk2
            obtain ⟨qq, haw, hqq⟩ := HKX.out (by trivial) (by trivial)
            have HS2 := l1Has_any HRY.out (by omega) nk0
            by_cases hi2 : nk0 ∈ ys
            · rw [decide_eq_true hi2] at HS2
              have hfk : f k = false := by
                cases e : f k
                · rfl
                · obtain ⟨_, _, q', h1, h2⟩ := HFK.out.1 e
                  rw [haw] at h1
                  injection h1 with h1
                  exact absurd (hqq.1 hi2) (by rw [h1]; exact h2)
              have HX : Hid _ := HSKIP.out hfk
              clear HSKIP HNO HYES HKX HKN HIN hqq haw hfk he0
              go_wp2_with (first | (have hh := HS1; clear hh; go_at_call 155; refine HS1.mono ?_; clear HS1; rintro e w4 ⟨rfl, hw4⟩; rw [hw4]; clear hw4) | (go_at_call 155; refine HS2.mono ?_; clear HS2; rintro e w4 ⟨rfl, hw4⟩; rw [hw4]; clear hw4))
              exact ⟨HX.out, by simp [intOf]; omega⟩
            · rw [decide_eq_false hi2] at HS2
              have hfk : f k = true := HFK.out.2 ⟨HIN.out.1 hi1, HFM.out, qq, haw, fun e => hi2 (hqq.2 e)⟩
              have HX : Hid _ := HYES.out hfk
              clear HSKIP HNO HYES HKX HKN HIN hqq haw hfk he0
              go_wp2_with (first | (have hh := HS1; clear hh; go_at_call 155; refine HS1.mono ?_; clear HS1; rintro e w4 ⟨rfl, hw4⟩; rw [hw4]; clear hw4) | (go_at_call 155; refine HS2.mono ?_; clear HS2; rintro e w4 ⟨rfl, hw4⟩; rw [hw4]; clear hw4))
              generalize hYY : (wr.alloc (ob ⟨mi, mc, 2, mh, .slice (some ⟨b0, off0, none⟩) msl.length sc, msl⟩)) = Y at *
              generalize hP7 : wr.heap.size = P7 at *
              clear hYY t0 t1 t2 t4 q0 x0 x1 x2 x3 x4
              obtain ⟨a5, cp5, e5, hlc5, hcm5, _, hc5⟩ := own_ints HY5.out
              rw [List.length_map] at e5 hlc5
              injection e5 with e51 e52 e53
              subst e51 e53
              obtain ⟨a4, cp4, e4, hlc4, hcm4, _, _⟩ := own_ints HY4.out
              rw [List.length_map] at e4 hlc4
              injection e4 with e41 e42 e43
              subst e41 e43
              have hcm5' : c5 ≤ 9223372036854775807 := hcm5
              have hcm4' : c4 ≤ 9223372036854775807 := hcm4
              have HC5 : Hid _ := hc5
              clear hc5 e52 e42
              go_loopw [8] (fun p wz => ∃ i : Nat, i ≤ ss.length ∧ p = .int .i64 i ∧ (∀ j, j < i → (hshG G.objs ss).getD j 0 ≤ mh) ∧ ∃ q, wz = Y.drewN q) (fun p _ => ss.length - (intOf p).toNat)
              case atStart => exact ⟨0, Nat.zero_le _, rfl, fun j hj => by omega, 0, rfl⟩
              case round =>
                obtain ⟨i, hi, rfl, hall, q, hwz⟩ := hrel
                subst hwz
                by_cases hgo : i < ss.length ∧ (hshG G.objs ss).getD i 0 ≤ mh
                · obtain ⟨hil, hle⟩ := hgo
                  obtain ⟨b5, o5, e6, _, hcc5⟩ := HC5.out (by rw [List.length_map]; omega)
                  injection e6 with e6
                  injection e6 with e61 e62
                  subst e61 e62
                  have cc := hcc5 i (by rw [List.length_map]; exact hil)
                  rw [Nat.zero_add] at cc
                  have HV : Hid (∀ j, j < i + 1 → (hshG G.objs ss).getD j 0 ≤ mh) := fun j hj => by
                    by_cases e : j = i
                    · rw [e]; exact hle
                    · exact hall j (by omega)
                  clear hcc5 hall
                  generalize (hshG G.objs ss).getD i 0 = hh at *
                  have hil' : (i : Int) < (ss.length : Int) := by omega
                  go_wp2_with fail
                  go_quiet (fail)
                  go_wp2
                  exact ⟨⟨i + 1, by omega, by go_num, HV, _, rfl⟩, by simp [intOf]; omega⟩
                · by_cases hcase : i < ss.length
                  · have hle : ¬ (hshG G.objs ss).getD i 0 ≤ mh := fun e => hgo ⟨hcase, e⟩
                    obtain ⟨b5, o5, e6, _, hcc5⟩ := HC5.out (by rw [List.length_map]; omega)
                    injection e6 with e6
                    injection e6 with e61 e62
                    subst e61 e62
                    have cc := hcc5 i (by rw [List.length_map]; exact hcase)
                    rw [Nat.zero_add] at cc
                    have HNLE : Hid _ := hle
                    clear hcc5
                    generalize hhx : (hshG G.objs ss).getD i 0 = hh at *
                    have hil' : (i : Int) < (ss.length : Int) := by omega
                    go_wp2_with fail
                    go_quiet (fail)
                    have HP4 : Hid (∀ n o c, (o = i ∧ c = c4 - i ∨ i = ss.length ∧ c4 = i ∧ o = 0 ∧ c = 0) → IntsAt (Y.drewN n) (.slice (some ⟨g4, o, none⟩) (ss.length - i) c) ((idsG G.objs ss).drop i)) := by
                      intro n o c h
                      rcases h with ⟨rfl, rfl⟩ | ⟨h1, h2, rfl, rfl⟩
                      · exact ints_drop (w := Y) (b := g4) (off := 0) (n := ss.length) (cap := c4) (own_ints HY4.out) hi (fun h => by rw [Nat.zero_add]) (fun h => by cases h)
                      · have := ints_drop (w := Y) (b := g4) (off := 0) (n := ss.length) (cap := c4) (k := i) (own_ints HY4.out) hi (a := some ⟨g4, 0, none⟩) (fun h => by omega) (fun h => by cases h)
                        rw [show c4 - i = 0 by omega] at this
                        exact this
                    have HP5 : Hid (∀ W o c, Below Y.heap.size Y W → (o = i ∧ c = c5 - i ∨ i = ss.length ∧ c5 = i ∧ o = 0 ∧ c = 0) → IntsAt W (.slice (some ⟨g5, o, none⟩) (ss.length - i) c) ((hshG G.objs ss).drop i)) := by
                      intro W o c hW h
                      refine intsAt_below ?_ hW
                      rcases h with ⟨rfl, rfl⟩ | ⟨h1, h2, rfl, rfl⟩
                      · exact ints_drop (w := Y) (b := g5) (off := 0) (n := ss.length) (cap := c5) (own_ints HY5.out) hi (fun h => by rw [Nat.zero_add]) (fun h => by cases h)
                      · have := ints_drop (w := Y) (b := g5) (off := 0) (n := ss.length) (cap := c5) (k := i) (own_ints HY5.out) hi (a := some ⟨g5, 0, none⟩) (fun h => by omega) (fun h => by cases h)
                        rw [show c5 - i = 0 by omega] at this
                        exact this
                    have HQ4 : Hid (∀ n, IntsAt (Y.drewN n) (.slice (if c4 = i then (some ⟨g4, 0, none⟩ : Option Addr) else some ⟨g4, i, none⟩) (ss.length - i) (c4 - i)) ((idsG G.objs ss).drop i)) := fun n => ints_drop (w := Y) (b := g4) (off := 0) (n := ss.length) (cap := c4) (own_ints HY4.out) hi (fun h => by rw [if_neg (by omega), Nat.zero_add]) (fun h => by split at h <;> cases h)
                    have HQ5 : Hid (∀ W, Below Y.heap.size Y W → IntsAt W (.slice (if c5 = i then (some ⟨g5, 0, none⟩ : Option Addr) else some ⟨g5, i, none⟩) (ss.length - i) (c5 - i)) ((hshG G.objs ss).drop i)) := fun W hW => intsAt_below (ints_drop (w := Y) (b := g5) (off := 0) (n := ss.length) (cap := c5) (own_ints HY5.out) hi (fun h => by rw [if_neg (by omega), Nat.zero_add]) (fun h => by split at h <;> cases h)) hW
                    go_wp2_with (first
                      | (refine wpList_copiedN (n := ss.length - i) (xs := (idsG G.objs ss).drop i) ?_ (by omega) rfl (.tmp 69) (.tmp 72) rfl rfl rfl ?_; (first | exact HQ4.out _ | exact HP4.out _ _ _ (Or.inl ⟨rfl, rfl⟩) | exact HP4.out _ _ _ (Or.inr ⟨by omega, by omega, rfl, rfl⟩)); intro ga ca wa hga hOa hBa; (try generalize (if c4 = i then (some ⟨g4, 0, none⟩ : Option Addr) else some ⟨g4, i, none⟩) = z4); have BYa : Below Y.heap.size Y wa := ⟨hBa.os, hBa.tape, hBa.output, hBa.size, hBa.block⟩; have HBYa : Hid _ := BYa; have HRa : Hid (IntsAt wa (.slice (some ⟨ga, 0, none⟩) (ss.length - i) ca) ((idsG G.objs ss).drop i)) := own_ints (own_row hOa (by simp)); clear hOa hBa hga BYa)
                      | (refine wpList_copiedN (n := ss.length - i) (xs := (hshG G.objs ss).drop i) ?_ (by omega) rfl (.tmp 74) (.tmp 77) rfl rfl rfl ?_; (first | exact HQ5.out _ HBYa.out | exact HP5.out _ _ _ HBYa.out (Or.inl ⟨rfl, rfl⟩) | exact HP5.out _ _ _ HBYa.out (Or.inr ⟨by omega, by omega, rfl, rfl⟩)); intro gb' cb wb hgb hOb hBb; (try generalize (if c5 = i then (some ⟨g5, 0, none⟩ : Option Addr) else some ⟨g5, i, none⟩) = z5); have HBYb : Hid (Below Y.heap.size Y wb) := HBYa.out.trans (hBb.mono HBYa.out.size); have HRa2 : Hid _ := intsAt_below HRa.out hBb; have HRb : Hid (IntsAt wb (.slice (some ⟨gb', 0, none⟩) (ss.length - i) cb) ((hshG G.objs ss).drop i)) := own_ints (own_row hOb (by simp)); clear hOb hBb hgb))
                    clear HQ4 HQ5 HP4 HP5
                    have TYb := five_below HTY.out HBYb.out
                    have l7 := lt_of_block TYb
                    have f0 := (five_cells TYb).1
                    have szb : w.heap.size ≤ wb.heap.size := Nat.le_trans HB2.out.size (Nat.le_trans HBY.out.size HBYb.out.size)
                    have hT4 := intsAt_below (ints_take (own_ints HY4.out) hi) HBYb.out
                    go_cut [4] from 15 to 100 (fun v wx => ∃ g c : Nat, v = .slice (some ⟨g, 0, none⟩) (ss.length + 1) c ∧ Hid (Own wx w.heap.size (.slice (some ⟨g, 0, none⟩) (ss.length + 1) c) ((idsG G.objs ss).take i ++ mi :: (idsG G.objs ss).drop i)) ∧ Hid (Below wb.heap.size wb wx))
                    case first =>
                      refine regPut (s0 := 79) (ls := 4) (rs := 9) (P7 := P7) (fd := 0) (kk := i) (m := ss.length - i) (x := mi) (T := (idsG G.objs ss).take i) (D := (idsG G.objs ss).drop i) (lv := .slice (some ⟨g4, 0, none⟩) ss.length c4) (pv := .slice (some ⟨g4, 0, none⟩) i c4) (rv := .slice (some ⟨ga, 0, none⟩) (ss.length - i) ca) (a := some ⟨g4, 0, none⟩) (cap := c4) (gr := ga) (cr := ca) (by simp) ?_ rfl ⟨_, rfl, rfl, rfl, by simp [Region.binds]⟩ ⟨_, rfl, rfl, rfl, by simp [Region.binds]⟩ ⟨_, rfl, rfl, rfl, by simp [Region.binds]⟩ ⟨_, rfl, rfl, rfl, by simp [Region.binds]⟩ ⟨_, rfl, rfl, rfl, by simp [Region.binds]⟩ ⟨_, rfl, rfl, rfl, by simp [Region.binds]⟩ ⟨_, rfl, rfl, rfl, by simp [Region.binds]⟩ ⟨_, rfl, rfl, rfl, by simp [Region.binds]⟩ ⟨_, rfl, rfl, rfl, by simp [Region.binds]⟩ ⟨_, rfl, rfl, rfl, by simp [Region.binds]⟩ ⟨_, rfl, rfl, rfl, by simp [Region.binds]⟩ ⟨_, rfl, rfl, rfl, by simp [Region.binds]⟩ (by decide) (by decide) (by decide) (by decide) (by decide) (by decide) (by simp) rfl rfl rfl rfl (rs_cut (by omega) (by omega) (by omega)) (rs_f0 P7) l7 f0 rfl hT4 rfl HRa2.out (by omega) (by omega) ?_
                      · intro k' o' ho' e' he'
                        have hk' : k' < 12 := (Array.getElem?_eq_some_iff.1 ho').1
                        rcases (show k' = 0 ∨ k' = 1 ∨ k' = 2 ∨ k' = 3 ∨ k' = 4 ∨ k' = 5 ∨ k' = 6 ∨ k' = 7 ∨ k' = 8 ∨ k' = 9 ∨ k' = 10 ∨ k' = 11 by omega) with rfl | rfl | rfl | rfl | rfl | rfl | rfl | rfl | rfl | rfl | rfl | rfl
                        all_goals
                          injection ho' with ho'
                          subst ho'
                          simp at he'
                          try omega
                        all_goals
                          first
                            | (subst he'; decide)
                            | (rcases he' with rfl | rfl <;> decide)
                            | (rcases he' with rfl | rfl | rfl <;> decide)
                            | (rcases he' with rfl | rfl | rfl | rfl <;> decide)
                            | (rcases he' with rfl | rfl | rfl | rfl | rfl <;> decide)
                            | (rcases he' with rfl | rfl | rfl | rfl | rfl | rfl <;> decide)
                            | (rcases he' with rfl | rfl | rfl | rfl | rfl | rfl | rfl <;> decide)
                            | (rcases he' with rfl | rfl | rfl | rfl | rfl | rfl | rfl | rfl <;> decide)
                            | (rcases he' with rfl | rfl | rfl | rfl | rfl | rfl | rfl | rfl | rfl <;> decide)
                            | (rcases he' with rfl | rfl | rfl | rfl | rfl | rfl | rfl | rfl | rfl | rfl <;> decide)
                            | (rcases he' with rfl | rfl | rfl | rfl | rfl | rfl | rfl | rfl | rfl | rfl | rfl <;> decide)
                            | (rcases he' with rfl | rfl | rfl | rfl | rfl | rfl | rfl | rfl | rfl | rfl | rfl | rfl <;> decide)
                            | (rcases he' with rfl | rfl | rfl | rfl | rfl | rfl | rfl | rfl | rfl | rfl | rfl | rfl | rfl <;> decide)
                            | (rcases he' with rfl | rfl | rfl | rfl | rfl | rfl | rfl | rfl | rfl | rfl | rfl | rfl | rfl | rfl <;> decide)
                            | (rcases he' with rfl | rfl | rfl | rfl | rfl | rfl | rfl | rfl | rfl | rfl | rfl | rfl | rfl | rfl | rfl <;> decide)
                            | (rcases he' with rfl | rfl | rfl | rfl | rfl | rfl | rfl | rfl | rfl | rfl | rfl | rfl | rfl | rfl | rfl | rfl <;> decide)
                            | (rcases he' with rfl | rfl | rfl | rfl | rfl | rfl | rfl | rfl | rfl | rfl | rfl | rfl | rfl | rfl | rfl | rfl | rfl <;> decide)
                      · rintro u w' v hu hrow hb
                        obtain ⟨gq, cq, hv⟩ : ∃ g c, v = .slice (some ⟨g, 0, none⟩) (ss.length + 1) c := by
                          obtain ⟨_, ⟨_, q0⟩ | ⟨g, c', cur, q1, _⟩⟩ := id hrow
                          · omega
                          · exact ⟨g, c', by rw [q1]; congr 1; omega⟩
                        subst hv
                        have ow := own_put (R := (idsG G.objs ss).take i ++ mi :: (idsG G.objs ss).drop i) rfl (by simp; omega) (row_base hrow szb)
                        rename_i J K' HJ HK
                        exact HK _ _ (Met.intro (HJ _ _ ⟨u 4, _, _, _, _, _, _, _, _, _, _, _, _, _, _, _, _, _, _, _, _, _, _, _, _, _, _, _, _, _, _, _, _, _, _, _, _, _, _, _, _, _, _, _, _, _, _, _, _, _, _, _, _, _, _, _, _, _, _, _, _, _, _, _, _, _, _, _, _, _, _, _, _, _, _, _, _, _, _, _, _, _, _, _, _, _, _, ⟨gq, cq, hu, ow, hb⟩, rfl⟩))
                    obtain ⟨g6, c6, rfl, HO6, HB6⟩ := hcut
                    obtain ⟨wd, hwd⟩ : ∃ wd, wd = wc := ⟨_, rfl⟩
                    subst hwd
                    have BYd := HBYb.out.trans (HB6.out.mono HBYb.out.size)
                    have TYd := five_below HTY.out BYd
                    have l7 := lt_of_block TYd
                    have f3 := (five_cells TYd).2.2.2.1
                    have szd : w.heap.size ≤ wd.heap.size := Nat.le_trans szb HB6.out.size
                    have hT5 := intsAt_below (ints_take (own_ints HY5.out) hi) BYd
                    have hD5 := intsAt_below HRb.out HB6.out
                    have HBXd : Hid (Below X2.heap.size X2 wd) := HBY.out.trans (BYd.mono HBY.out.size)
                    clear f0
                    go_wp2_with fail
                    refine regPut (s0 := 90) (ls := 5) (rs := 10) (P7 := P7) (fd := 3) (kk := i) (m := ss.length - i) (x := mh) (T := (hshG G.objs ss).take i) (D := (hshG G.objs ss).drop i) (lv := .slice (some ⟨g5, 0, none⟩) ss.length c5) (pv := .slice (some ⟨g5, 0, none⟩) i c5) (rv := .slice (some ⟨gb', 0, none⟩) (ss.length - i) cb) (a := some ⟨g5, 0, none⟩) (cap := c5) (gr := gb') (cr := cb) (by simp) ?_ rfl ⟨_, rfl, rfl, rfl, by simp [Region.binds]⟩ ⟨_, rfl, rfl, rfl, by simp [Region.binds]⟩ ⟨_, rfl, rfl, rfl, by simp [Region.binds]⟩ ⟨_, rfl, rfl, rfl, by simp [Region.binds]⟩ ⟨_, rfl, rfl, rfl, by simp [Region.binds]⟩ ⟨_, rfl, rfl, rfl, by simp [Region.binds]⟩ ⟨_, rfl, rfl, rfl, by simp [Region.binds]⟩ ⟨_, rfl, rfl, rfl, by simp [Region.binds]⟩ ⟨_, rfl, rfl, rfl, by simp [Region.binds]⟩ ⟨_, rfl, rfl, rfl, by simp [Region.binds]⟩ ⟨_, rfl, rfl, rfl, by simp [Region.binds]⟩ ⟨_, rfl, rfl, rfl, by simp [Region.binds]⟩ (by decide) (by decide) (by decide) (by decide) (by decide) (by decide) (by simp) rfl rfl rfl rfl (rs_cut (by omega) (by omega) (by omega)) (rs_f3 P7) l7 f3 rfl hT5 rfl hD5 (by omega) (by omega) ?_
                    · intro k' o' ho' e' he'
                      have hk' : k' < 12 := (Array.getElem?_eq_some_iff.1 ho').1
                      rcases (show k' = 0 ∨ k' = 1 ∨ k' = 2 ∨ k' = 3 ∨ k' = 4 ∨ k' = 5 ∨ k' = 6 ∨ k' = 7 ∨ k' = 8 ∨ k' = 9 ∨ k' = 10 ∨ k' = 11 by omega) with rfl | rfl | rfl | rfl | rfl | rfl | rfl | rfl | rfl | rfl | rfl | rfl
                      all_goals
                        injection ho' with ho'
                        subst ho'
                        simp at he'
                        try omega
                      all_goals
                        first
                          | (subst he'; decide)
                          | (rcases he' with rfl | rfl <;> decide)
                          | (rcases he' with rfl | rfl | rfl <;> decide)
                          | (rcases he' with rfl | rfl | rfl | rfl <;> decide)
                          | (rcases he' with rfl | rfl | rfl | rfl | rfl <;> decide)
                          | (rcases he' with rfl | rfl | rfl | rfl | rfl | rfl <;> decide)
                          | (rcases he' with rfl | rfl | rfl | rfl | rfl | rfl | rfl <;> decide)
                          | (rcases he' with rfl | rfl | rfl | rfl | rfl | rfl | rfl | rfl <;> decide)
                          | (rcases he' with rfl | rfl | rfl | rfl | rfl | rfl | rfl | rfl | rfl <;> decide)
                          | (rcases he' with rfl | rfl | rfl | rfl | rfl | rfl | rfl | rfl | rfl | rfl <;> decide)
                          | (rcases he' with rfl | rfl | rfl | rfl | rfl | rfl | rfl | rfl | rfl | rfl | rfl <;> decide)
                          | (rcases he' with rfl | rfl | rfl | rfl | rfl | rfl | rfl | rfl | rfl | rfl | rfl | rfl <;> decide)
                          | (rcases he' with rfl | rfl | rfl | rfl | rfl | rfl | rfl | rfl | rfl | rfl | rfl | rfl | rfl <;> decide)
                          | (rcases he' with rfl | rfl | rfl | rfl | rfl | rfl | rfl | rfl | rfl | rfl | rfl | rfl | rfl | rfl <;> decide)
                          | (rcases he' with rfl | rfl | rfl | rfl | rfl | rfl | rfl | rfl | rfl | rfl | rfl | rfl | rfl | rfl | rfl <;> decide)
                          | (rcases he' with rfl | rfl | rfl | rfl | rfl | rfl | rfl | rfl | rfl | rfl | rfl | rfl | rfl | rfl | rfl | rfl <;> decide)
                          | (rcases he' with rfl | rfl | rfl | rfl | rfl | rfl | rfl | rfl | rfl | rfl | rfl | rfl | rfl | rfl | rfl | rfl | rfl <;> decide)
                    rintro u w' v hu hrow hb
                    obtain ⟨gq, cq, hv⟩ : ∃ g c, v = .slice (some ⟨g, 0, none⟩) (ss.length + 1) c := by
                      obtain ⟨_, ⟨_, q0⟩ | ⟨g, c', cur, q1, _⟩⟩ := id hrow
                      · omega
                      · exact ⟨g, c', by rw [q1]; congr 1; omega⟩
                    subst hv
                    have ow := own_put (R := (hshG G.objs ss).take i ++ mh :: (hshG G.objs ss).drop i) rfl (by simp; omega) (row_base hrow szd)
                    have HB7 : Hid _ := hb
                    have HO7 : Hid _ := ow
                    clear ow hb hrow
                    simp [ovr, List.range, List.range.loop, hu]
                    have hins := insG_at (os := G.objs) (p := k) hi (fun j hj => by
                          have := hall j hj
                          rw [HHS.out]
                          have e : (hshG G.objs ss).getD j 0 = (G.objs.getD (ss.getD j 0) obD).hash := by
                            rw [List.getD_eq_getElem?_getD, List.getElem?_map, List.getElem?_eq_getElem (show j < ss.length by omega), List.getD_eq_getElem?_getD (l := ss), List.getElem?_eq_getElem (show j < ss.length by omega)]
                            rfl
                          rw [← e]
                          exact this) (fun hjl => by
                          rw [HHS.out]
                          have e : (hshG G.objs ss).getD i 0 = (G.objs.getD (ss.getD i 0) obD).hash := by
                            rw [List.getD_eq_getElem?_getD, List.getElem?_map, List.getElem?_eq_getElem hjl, List.getD_eq_getElem?_getD (l := ss), List.getElem?_eq_getElem hjl]
                            rfl
                          rw [← e]
                          exact (by rw [hhx]; exact HNLE.out))
                    have HST : Hid (∃ (k' g4' c4' g5' c5' : Nat), k' ≤ ms.length ∧ Value.int .i64 ((k : Int) + 1) = .int .i64 k' ∧ Value.slice (some ⟨g6, 0, none⟩) (ss.length + 1) c6 = .slice (some ⟨g4', 0, none⟩) (sortG G.objs f k').length c4' ∧ Value.slice (some ⟨gq, 0, none⟩) (ss.length + 1) cq = .slice (some ⟨g5', 0, none⟩) (sortG G.objs f k').length c5' ∧ Own w' w.heap.size (.slice (some ⟨g4', 0, none⟩) (sortG G.objs f k').length c4') (idsG G.objs (sortG G.objs f k')) ∧ Own w' w.heap.size (.slice (some ⟨g5', 0, none⟩) (sortG G.objs f k').length c5') (hshG G.objs (sortG G.objs f k')) ∧ Below X2.heap.size X2 w') := by
                      have e1 : idsG G.objs (sortG G.objs f (k + 1)) = (idsG G.objs ss).take i ++ mi :: (idsG G.objs ss).drop i := by rw [HX.out, hins, ← HID.out]; simp [idsG]
                      have e2 : hshG G.objs (sortG G.objs f (k + 1)) = (hshG G.objs ss).take i ++ mh :: (hshG G.objs ss).drop i := by rw [HX.out, hins, ← HHS.out]; simp [hshG]
                      have e3 : (sortG G.objs f (k + 1)).length = ss.length + 1 := by rw [HX.out, len_insG]
                      exact ⟨k + 1, g6, c6, gq, cq, by omega, by simp, by rw [e3], by rw [e3], by rw [e3, e1]; exact own_below HO6.out HB7.out, by rw [e3, e2]; exact HO7.out, HBXd.out.trans (HB7.out.mono HBXd.out.size)⟩
                    clear hins
                    go_wp2
                    exact ⟨HST.out, by simp [intOf]; omega⟩
                  · have hdl : decide ((i : Int) < (ss.length : Int)) = false := by rw [decide_eq_false_iff_not]; omega
                    have hnl : ¬ (i : Int) < (ss.length : Int) := by omega
                    go_wp2_with fail
                    go_quiet (fail)
                    have HP4 : Hid (∀ n o c, (o = i ∧ c = c4 - i ∨ i = ss.length ∧ c4 = i ∧ o = 0 ∧ c = 0) → IntsAt (Y.drewN n) (.slice (some ⟨g4, o, none⟩) (ss.length - i) c) ((idsG G.objs ss).drop i)) := by
                      intro n o c h
                      rcases h with ⟨rfl, rfl⟩ | ⟨h1, h2, rfl, rfl⟩
                      · exact ints_drop (w := Y) (b := g4) (off := 0) (n := ss.length) (cap := c4) (own_ints HY4.out) hi (fun h => by rw [Nat.zero_add]) (fun h => by cases h)
                      · have := ints_drop (w := Y) (b := g4) (off := 0) (n := ss.length) (cap := c4) (k := i) (own_ints HY4.out) hi (a := some ⟨g4, 0, none⟩) (fun h => by omega) (fun h => by cases h)
                        rw [show c4 - i = 0 by omega] at this
                        exact this
                    have HP5 : Hid (∀ W o c, Below Y.heap.size Y W → (o = i ∧ c = c5 - i ∨ i = ss.length ∧ c5 = i ∧ o = 0 ∧ c = 0) → IntsAt W (.slice (some ⟨g5, o, none⟩) (ss.length - i) c) ((hshG G.objs ss).drop i)) := by
                      intro W o c hW h
                      refine intsAt_below ?_ hW
                      rcases h with ⟨rfl, rfl⟩ | ⟨h1, h2, rfl, rfl⟩
                      · exact ints_drop (w := Y) (b := g5) (off := 0) (n := ss.length) (cap := c5) (own_ints HY5.out) hi (fun h => by rw [Nat.zero_add]) (fun h => by cases h)
                      · have := ints_drop (w := Y) (b := g5) (off := 0) (n := ss.length) (cap := c5) (k := i) (own_ints HY5.out) hi (a := some ⟨g5, 0, none⟩) (fun h => by omega) (fun h => by cases h)
                        rw [show c5 - i = 0 by omega] at this
                        exact this
                    have HQ4 : Hid (∀ n, IntsAt (Y.drewN n) (.slice (if c4 = i then (some ⟨g4, 0, none⟩ : Option Addr) else some ⟨g4, i, none⟩) (ss.length - i) (c4 - i)) ((idsG G.objs ss).drop i)) := fun n => ints_drop (w := Y) (b := g4) (off := 0) (n := ss.length) (cap := c4) (own_ints HY4.out) hi (fun h => by rw [if_neg (by omega), Nat.zero_add]) (fun h => by split at h <;> cases h)
                    have HQ5 : Hid (∀ W, Below Y.heap.size Y W → IntsAt W (.slice (if c5 = i then (some ⟨g5, 0, none⟩ : Option Addr) else some ⟨g5, i, none⟩) (ss.length - i) (c5 - i)) ((hshG G.objs ss).drop i)) := fun W hW => intsAt_below (ints_drop (w := Y) (b := g5) (off := 0) (n := ss.length) (cap := c5) (own_ints HY5.out) hi (fun h => by rw [if_neg (by omega), Nat.zero_add]) (fun h => by split at h <;> cases h)) hW
                    go_wp2_with (first
                      | (refine wpList_copiedN (n := ss.length - i) (xs := (idsG G.objs ss).drop i) ?_ (by omega) rfl (.tmp 69) (.tmp 72) rfl rfl rfl ?_; (first | exact HQ4.out _ | exact HP4.out _ _ _ (Or.inl ⟨rfl, rfl⟩) | exact HP4.out _ _ _ (Or.inr ⟨by omega, by omega, rfl, rfl⟩)); intro ga ca wa hga hOa hBa; (try generalize (if c4 = i then (some ⟨g4, 0, none⟩ : Option Addr) else some ⟨g4, i, none⟩) = z4); have BYa : Below Y.heap.size Y wa := ⟨hBa.os, hBa.tape, hBa.output, hBa.size, hBa.block⟩; have HBYa : Hid _ := BYa; have HRa : Hid (IntsAt wa (.slice (some ⟨ga, 0, none⟩) (ss.length - i) ca) ((idsG G.objs ss).drop i)) := own_ints (own_row hOa (by simp)); clear hOa hBa hga BYa)
                      | (refine wpList_copiedN (n := ss.length - i) (xs := (hshG G.objs ss).drop i) ?_ (by omega) rfl (.tmp 74) (.tmp 77) rfl rfl rfl ?_; (first | exact HQ5.out _ HBYa.out | exact HP5.out _ _ _ HBYa.out (Or.inl ⟨rfl, rfl⟩) | exact HP5.out _ _ _ HBYa.out (Or.inr ⟨by omega, by omega, rfl, rfl⟩)); intro gb' cb wb hgb hOb hBb; (try generalize (if c5 = i then (some ⟨g5, 0, none⟩ : Option Addr) else some ⟨g5, i, none⟩) = z5); have HBYb : Hid (Below Y.heap.size Y wb) := HBYa.out.trans (hBb.mono HBYa.out.size); have HRa2 : Hid _ := intsAt_below HRa.out hBb; have HRb : Hid (IntsAt wb (.slice (some ⟨gb', 0, none⟩) (ss.length - i) cb) ((hshG G.objs ss).drop i)) := own_ints (own_row hOb (by simp)); clear hOb hBb hgb))
                    clear HQ4 HQ5 HP4 HP5
                    have TYb := five_below HTY.out HBYb.out
                    have l7 := lt_of_block TYb
                    have f0 := (five_cells TYb).1
                    have szb : w.heap.size ≤ wb.heap.size := Nat.le_trans HB2.out.size (Nat.le_trans HBY.out.size HBYb.out.size)
                    have hT4 := intsAt_below (ints_take (own_ints HY4.out) hi) HBYb.out
                    go_cut [4] from 15 to 100 (fun v wx => ∃ g c : Nat, v = .slice (some ⟨g, 0, none⟩) (ss.length + 1) c ∧ Hid (Own wx w.heap.size (.slice (some ⟨g, 0, none⟩) (ss.length + 1) c) ((idsG G.objs ss).take i ++ mi :: (idsG G.objs ss).drop i)) ∧ Hid (Below wb.heap.size wb wx))
                    case first =>
                      refine regPut (s0 := 79) (ls := 4) (rs := 9) (P7 := P7) (fd := 0) (kk := i) (m := ss.length - i) (x := mi) (T := (idsG G.objs ss).take i) (D := (idsG G.objs ss).drop i) (lv := .slice (some ⟨g4, 0, none⟩) ss.length c4) (pv := .slice (some ⟨g4, 0, none⟩) i c4) (rv := .slice (some ⟨ga, 0, none⟩) (ss.length - i) ca) (a := some ⟨g4, 0, none⟩) (cap := c4) (gr := ga) (cr := ca) (by simp) ?_ rfl ⟨_, rfl, rfl, rfl, by simp [Region.binds]⟩ ⟨_, rfl, rfl, rfl, by simp [Region.binds]⟩ ⟨_, rfl, rfl, rfl, by simp [Region.binds]⟩ ⟨_, rfl, rfl, rfl, by simp [Region.binds]⟩ ⟨_, rfl, rfl, rfl, by simp [Region.binds]⟩ ⟨_, rfl, rfl, rfl, by simp [Region.binds]⟩ ⟨_, rfl, rfl, rfl, by simp [Region.binds]⟩ ⟨_, rfl, rfl, rfl, by simp [Region.binds]⟩ ⟨_, rfl, rfl, rfl, by simp [Region.binds]⟩ ⟨_, rfl, rfl, rfl, by simp [Region.binds]⟩ ⟨_, rfl, rfl, rfl, by simp [Region.binds]⟩ ⟨_, rfl, rfl, rfl, by simp [Region.binds]⟩ (by decide) (by decide) (by decide) (by decide) (by decide) (by decide) (by simp) rfl rfl rfl rfl (rs_cut (by omega) (by omega) (by omega)) (rs_f0 P7) l7 f0 rfl hT4 rfl HRa2.out (by omega) (by omega) ?_
                      · intro k' o' ho' e' he'
                        have hk' : k' < 12 := (Array.getElem?_eq_some_iff.1 ho').1
                        rcases (show k' = 0 ∨ k' = 1 ∨ k' = 2 ∨ k' = 3 ∨ k' = 4 ∨ k' = 5 ∨ k' = 6 ∨ k' = 7 ∨ k' = 8 ∨ k' = 9 ∨ k' = 10 ∨ k' = 11 by omega) with rfl | rfl | rfl | rfl | rfl | rfl | rfl | rfl | rfl | rfl | rfl | rfl
                        all_goals
                          injection ho' with ho'
                          subst ho'
                          simp at he'
                          try omega
                        all_goals
                          first
                            | (subst he'; decide)
                            | (rcases he' with rfl | rfl <;> decide)
                            | (rcases he' with rfl | rfl | rfl <;> decide)
                            | (rcases he' with rfl | rfl | rfl | rfl <;> decide)
                            | (rcases he' with rfl | rfl | rfl | rfl | rfl <;> decide)
                            | (rcases he' with rfl | rfl | rfl | rfl | rfl | rfl <;> decide)
                            | (rcases he' with rfl | rfl | rfl | rfl | rfl | rfl | rfl <;> decide)
                            | (rcases he' with rfl | rfl | rfl | rfl | rfl | rfl | rfl | rfl <;> decide)
                            | (rcases he' with rfl | rfl | rfl | rfl | rfl | rfl | rfl | rfl | rfl <;> decide)
                            | (rcases he' with rfl | rfl | rfl | rfl | rfl | rfl | rfl | rfl | rfl | rfl <;> decide)
                            | (rcases he' with rfl | rfl | rfl | rfl | rfl | rfl | rfl | rfl | rfl | rfl | rfl <;> decide)
                            | (rcases he' with rfl | rfl | rfl | rfl | rfl | rfl | rfl | rfl | rfl | rfl | rfl | rfl <;> decide)
                            | (rcases he' with rfl | rfl | rfl | rfl | rfl | rfl | rfl | rfl | rfl | rfl | rfl | rfl | rfl <;> decide)
                            | (rcases he' with rfl | rfl | rfl | rfl | rfl | rfl | rfl | rfl | rfl | rfl | rfl | rfl | rfl | rfl <;> decide)
                            | (rcases he' with rfl | rfl | rfl | rfl | rfl | rfl | rfl | rfl | rfl | rfl | rfl | rfl | rfl | rfl | rfl <;> decide)
                            | (rcases he' with rfl | rfl | rfl | rfl | rfl | rfl | rfl | rfl | rfl | rfl | rfl | rfl | rfl | rfl | rfl | rfl <;> decide)
                            | (rcases he' with rfl | rfl | rfl | rfl | rfl | rfl | rfl | rfl | rfl | rfl | rfl | rfl | rfl | rfl | rfl | rfl | rfl <;> decide)
                      · rintro u w' v hu hrow hb
                        obtain ⟨gq, cq, hv⟩ : ∃ g c, v = .slice (some ⟨g, 0, none⟩) (ss.length + 1) c := by
                          obtain ⟨_, ⟨_, q0⟩ | ⟨g, c', cur, q1, _⟩⟩ := id hrow
                          · omega
                          · exact ⟨g, c', by rw [q1]; congr 1; omega⟩
                        subst hv
                        have ow := own_put (R := (idsG G.objs ss).take i ++ mi :: (idsG G.objs ss).drop i) rfl (by simp; omega) (row_base hrow szb)
                        rename_i J K' HJ HK
                        exact HK _ _ (Met.intro (HJ _ _ ⟨u 4, _, _, _, _, _, _, _, _, _, _, _, _, _, _, _, _, _, _, _, _, _, _, _, _, _, _, _, _, _, _, _, _, _, _, _, _, _, _, _, _, _, _, _, _, _, _, _, _, _, _, _, _, _, _, _, _, _, _, _, _, _, _, _, _, _, _, _, _, _, _, _, _, _, _, _, _, _, _, _, _, _, _, _, _, _, _, ⟨gq, cq, hu, ow, hb⟩, rfl⟩))
                    obtain ⟨g6, c6, rfl, HO6, HB6⟩ := hcut
                    obtain ⟨wd, hwd⟩ : ∃ wd, wd = wc := ⟨_, rfl⟩
                    subst hwd
                    have BYd := HBYb.out.trans (HB6.out.mono HBYb.out.size)
                    have TYd := five_below HTY.out BYd
                    have l7 := lt_of_block TYd
                    have f3 := (five_cells TYd).2.2.2.1
                    have szd : w.heap.size ≤ wd.heap.size := Nat.le_trans szb HB6.out.size
                    have hT5 := intsAt_below (ints_take (own_ints HY5.out) hi) BYd
                    have hD5 := intsAt_below HRb.out HB6.out
                    have HBXd : Hid (Below X2.heap.size X2 wd) := HBY.out.trans (BYd.mono HBY.out.size)
                    clear f0
                    go_wp2_with fail
                    refine regPut (s0 := 90) (ls := 5) (rs := 10) (P7 := P7) (fd := 3) (kk := i) (m := ss.length - i) (x := mh) (T := (hshG G.objs ss).take i) (D := (hshG G.objs ss).drop i) (lv := .slice (some ⟨g5, 0, none⟩) ss.length c5) (pv := .slice (some ⟨g5, 0, none⟩) i c5) (rv := .slice (some ⟨gb', 0, none⟩) (ss.length - i) cb) (a := some ⟨g5, 0, none⟩) (cap := c5) (gr := gb') (cr := cb) (by simp) ?_ rfl ⟨_, rfl, rfl, rfl, by simp [Region.binds]⟩ ⟨_, rfl, rfl, rfl, by simp [Region.binds]⟩ ⟨_, rfl, rfl, rfl, by simp [Region.binds]⟩ ⟨_, rfl, rfl, rfl, by simp [Region.binds]⟩ ⟨_, rfl, rfl, rfl, by simp [Region.binds]⟩ ⟨_, rfl, rfl, rfl, by simp [Region.binds]⟩ ⟨_, rfl, rfl, rfl, by simp [Region.binds]⟩ ⟨_, rfl, rfl, rfl, by simp [Region.binds]⟩ ⟨_, rfl, rfl, rfl, by simp [Region.binds]⟩ ⟨_, rfl, rfl, rfl, by simp [Region.binds]⟩ ⟨_, rfl, rfl, rfl, by simp [Region.binds]⟩ ⟨_, rfl, rfl, rfl, by simp [Region.binds]⟩ (by decide) (by decide) (by decide) (by decide) (by decide) (by decide) (by simp) rfl rfl rfl rfl (rs_cut (by omega) (by omega) (by omega)) (rs_f3 P7) l7 f3 rfl hT5 rfl hD5 (by omega) (by omega) ?_
                    · intro k' o' ho' e' he'
                      have hk' : k' < 12 := (Array.getElem?_eq_some_iff.1 ho').1
                      rcases (show k' = 0 ∨ k' = 1 ∨ k' = 2 ∨ k' = 3 ∨ k' = 4 ∨ k' = 5 ∨ k' = 6 ∨ k' = 7 ∨ k' = 8 ∨ k' = 9 ∨ k' = 10 ∨ k' = 11 by omega) with rfl | rfl | rfl | rfl | rfl | rfl | rfl | rfl | rfl | rfl | rfl | rfl
                      all_goals
                        injection ho' with ho'
                        subst ho'
                        simp at he'
                        try omega
                      all_goals
                        first
                          | (subst he'; decide)
                          | (rcases he' with rfl | rfl <;> decide)
                          | (rcases he' with rfl | rfl | rfl <;> decide)
                          | (rcases he' with rfl | rfl | rfl | rfl <;> decide)
                          | (rcases he' with rfl | rfl | rfl | rfl | rfl <;> decide)
                          | (rcases he' with rfl | rfl | rfl | rfl | rfl | rfl <;> decide)
                          | (rcases he' with rfl | rfl | rfl | rfl | rfl | rfl | rfl <;> decide)
                          | (rcases he' with rfl | rfl | rfl | rfl | rfl | rfl | rfl | rfl <;> decide)
                          | (rcases he' with rfl | rfl | rfl | rfl | rfl | rfl | rfl | rfl | rfl <;> decide)
                          | (rcases he' with rfl | rfl | rfl | rfl | rfl | rfl | rfl | rfl | rfl | rfl <;> decide)
                          | (rcases he' with rfl | rfl | rfl | rfl | rfl | rfl | rfl | rfl | rfl | rfl | rfl <;> decide)
                          | (rcases he' with rfl | rfl | rfl | rfl | rfl | rfl | rfl | rfl | rfl | rfl | rfl | rfl <;> decide)
                          | (rcases he' with rfl | rfl | rfl | rfl | rfl | rfl | rfl | rfl | rfl | rfl | rfl | rfl | rfl <;> decide)
                          | (rcases he' with rfl | rfl | rfl | rfl | rfl | rfl | rfl | rfl | rfl | rfl | rfl | rfl | rfl | rfl <;> decide)
                          | (rcases he' with rfl | rfl | rfl | rfl | rfl | rfl | rfl | rfl | rfl | rfl | rfl | rfl | rfl | rfl | rfl <;> decide)
                          | (rcases he' with rfl | rfl | rfl | rfl | rfl | rfl | rfl | rfl | rfl | rfl | rfl | rfl | rfl | rfl | rfl | rfl <;> decide)
                          | (rcases he' with rfl | rfl | rfl | rfl | rfl | rfl | rfl | rfl | rfl | rfl | rfl | rfl | rfl | rfl | rfl | rfl | rfl <;> decide)
                    rintro u w' v hu hrow hb
                    obtain ⟨gq, cq, hv⟩ : ∃ g c, v = .slice (some ⟨g, 0, none⟩) (ss.length + 1) c := by
                      obtain ⟨_, ⟨_, q0⟩ | ⟨g, c', cur, q1, _⟩⟩ := id hrow
                      · omega
                      · exact ⟨g, c', by rw [q1]; congr 1; omega⟩
                    subst hv
                    have ow := own_put (R := (hshG G.objs ss).take i ++ mh :: (hshG G.objs ss).drop i) rfl (by simp; omega) (row_base hrow szd)
                    have HB7 : Hid _ := hb
                    have HO7 : Hid _ := ow
                    clear ow hb hrow
                    simp [ovr, List.range, List.range.loop, hu]
                    have hins := insG_at (os := G.objs) (p := k) hi (fun j hj => by
                          have := hall j hj
                          rw [HHS.out]
                          have e : (hshG G.objs ss).getD j 0 = (G.objs.getD (ss.getD j 0) obD).hash := by
                            rw [List.getD_eq_getElem?_getD, List.getElem?_map, List.getElem?_eq_getElem (show j < ss.length by omega), List.getD_eq_getElem?_getD (l := ss), List.getElem?_eq_getElem (show j < ss.length by omega)]
                            rfl
                          rw [← e]
                          exact this) (fun h => absurd h (by omega))
                    have HST : Hid (∃ (k' g4' c4' g5' c5' : Nat), k' ≤ ms.length ∧ Value.int .i64 ((k : Int) + 1) = .int .i64 k' ∧ Value.slice (some ⟨g6, 0, none⟩) (ss.length + 1) c6 = .slice (some ⟨g4', 0, none⟩) (sortG G.objs f k').length c4' ∧ Value.slice (some ⟨gq, 0, none⟩) (ss.length + 1) cq = .slice (some ⟨g5', 0, none⟩) (sortG G.objs f k').length c5' ∧ Own w' w.heap.size (.slice (some ⟨g4', 0, none⟩) (sortG G.objs f k').length c4') (idsG G.objs (sortG G.objs f k')) ∧ Own w' w.heap.size (.slice (some ⟨g5', 0, none⟩) (sortG G.objs f k').length c5') (hshG G.objs (sortG G.objs f k')) ∧ Below X2.heap.size X2 w') := by
                      have e1 : idsG G.objs (sortG G.objs f (k + 1)) = (idsG G.objs ss).take i ++ mi :: (idsG G.objs ss).drop i := by rw [HX.out, hins, ← HID.out]; simp [idsG]
                      have e2 : hshG G.objs (sortG G.objs f (k + 1)) = (hshG G.objs ss).take i ++ mh :: (hshG G.objs ss).drop i := by rw [HX.out, hins, ← HHS.out]; simp [hshG]
                      have e3 : (sortG G.objs f (k + 1)).length = ss.length + 1 := by rw [HX.out, len_insG]
                      exact ⟨k + 1, g6, c6, gq, cq, by omega, by simp, by rw [e3], by rw [e3], by rw [e3, e1]; exact own_below HO6.out HB7.out, by rw [e3, e2]; exact HO7.out, HBXd.out.trans (HB7.out.mono HBXd.out.size)⟩
                    clear hins
                    go_wp2
                    exact ⟨HST.out, by simp [intOf]; omega⟩
          · have hk2' : (k0 != 2) = true := by simpa using hk2
            have hfk : f k = false := by
              cases e : f k
              · rfl
              · obtain ⟨_, _, q', h1, h2⟩ := HFK.out.1 e
                rw [HKN.out hk2] at h1
                cases h1
            have HX : Hid _ := HSKIP.out hfk
            clear HSKIP HNO HYES HKX HKN HIN hfk he0 hk2
            go_wp2_with (go_at_call 155; refine HS1.mono ?_; clear HS1; rintro e w4 ⟨rfl, hw4⟩; rw [hw4]; clear hw4)
            exact ⟨HX.out, by simp [intOf]; omega⟩
        · have HS1 := l1Has_any HRY.out (by omega) mi
          rw [decide_eq_false hi1] at HS1
          have hfk : f k = false := by
            cases e : f k
            · rfl
            · exact absurd (HIN.out.2 (HFK.out.1 e).1) hi1
          have HX : Hid _ := HSKIP.out hfk
          clear HSKIP HNO HYES HKX HKN HIN hfk
          go_wp2_with (go_at_call 155; refine HS1.mono ?_; clear HS1; rintro e w4 ⟨rfl, hw4⟩; rw [hw4]; clear hw4)
          exact ⟨HX.out, by simp [intOf]; omega⟩
      · have hf2' : (mf != 2) = true := by simpa using hf2
        have hfk : f k = false := by
          cases e : f k
          · rfl
          · have := (HFK.out.1 e).2.1
            rw [HFM.out] at this
            exact absurd this hf2
        have HX : Hid _ := HSKIP.out hfk
        clear HSKIP HNO HYES HKX HKN HIN hfk hf2
        go_wp2
        exact ⟨HX.out, by simp [intOf]; omega⟩
    · have e : k = ms.length := by omega
      subst e
      have hfin : Own wr w.heap.size (.slice (some ⟨g4, 0, none⟩) (sortG G.objs f ms.length).length c4) (idsG G.objs ps) := by
        have := HO4.out
        rw [HPS.out, ← HLEN.out]
        exact this
      have HFO : Hid _ := hfin
      have HFB : Hid (Below w.heap.size w wr) := HB2.out.trans (hB.mono HB2.out.size)
      clear hO4 hO5 hB hfin
      generalize (sortG G.objs f ms.length).length = nn at *
      go_wp2
      go_ret
      exact ⟨_, rfl, HFO.out, HFB.out⟩
end Go.Proofs.Ytdogibjgogcdkab.gr
namespace Go.Proofs.Ytdogibjgogcdkab.gr
open Go.RowKit rows heads
set_option maxRecDepth 100000
set_option linter.unusedVariables false

set_option maxHeartbeats 4000000 in
theorem sGrieving_any {w : World} {o r m : Value} {ms : List MO} {G : Gr} (h : GraphAt w o r m ms G) (hs : gSize ms G ≤ 1048576) {xs : List Int} (hx : IsGrieving G xs) :
    Calls Try.prog 48 #[gv o r m G.next G.seed] w fun e w' => ∃ v, e = .returned v ∧ Own w' w.heap.size v xs ∧ Below w.heap.size w w' := by
  obtain ⟨a1, n1, c1, a2, n2, c2, a3, n3, c3, e1, e2, e3⟩ := graphAt_slices h
  subst e1 e2 e3
  have B : Below w.heap.size w (w.alloc (gb (.slice a1 n1 c1) (.slice a2 n2 c2) (.slice a3 n3 c3) G.next G.seed)) := (Below.refl _ w).alloc (Nat.le_refl _) _
  have T := five_new w 55 (.slice a1 n1 c1) (.slice a2 n2 c2) (.slice a3 n3 c3) (.int .i64 G.next) (.int .i64 G.seed)
  have GO := sGraphOk_any (graphAt_below h B) hs
  have HG : Hid _ := h
  have HB : Hid _ := B
  have HT : Hid _ := T
  have HX : Hid _ := hx
  clear h B T hx
  go_enter Try.func48, Try.ntmps48
  go_wp2_with fail
  generalize hX : (w.alloc (gb (.slice a1 n1 c1) (.slice a2 n2 c2) (.slice a3 n3 c3) G.next G.seed)) = X at *
  clear hX
  refine GO.mono ?_
  rintro e w1 ⟨rfl, b1⟩
  have B1 := HB.out.trans (b1.mono HB.out.size)
  have T1 := five_below HT.out b1
  have HB1 : Hid _ := B1
  clear GO HB HT b1
  cases ok : gOk G
  · have hxs : xs = [] := by
      rcases HX.out with ⟨_, e⟩ | ⟨e, _⟩
      · exact e
      · rw [ok] at e; cases e
    subst hxs
    have HF : Hid (Own (w1.alloc (.cells #[] 2)) w.heap.size (.slice (some ⟨w1.heap.size, 0, none⟩) 0 0) []) := ⟨rfl, .inr ⟨w1.heap.size, 0, #[], rfl, B1.size, heap_alloc_new w1 _, Nat.le_refl _, by decide, rfl, rfl⟩⟩
    have HFB : Hid (Below w.heap.size w (w1.alloc (.cells #[] 2))) := B1.alloc B1.size _
    clear B1 T1 HG HX
    go_wp2
    go_ret
    exact ⟨_, rfl, HF.out, HFB.out⟩
  · obtain ⟨ps, hps, hxs⟩ : ∃ ps, IsG G ps ∧ xs = ps.map fun p => (G.objs.getD p obD).id := by
      rcases HX.out with ⟨e, _⟩ | ⟨_, e⟩
      · rw [ok] at e; cases e
      · exact e
    subst hxs
    have L7 := l7Grieving_any (graphAt_below HG.out B1) ok hps
    obtain ⟨z0, z1, z2, z3, z4, _⟩ := five_cells T1
    have sz1 := B1.size
    clear B1 T1 HG HX hps
    go_wp2_with fail
    refine L7.mono ?_
    rintro e w2 ⟨v, rfl, O2, b2⟩
    obtain ⟨va, vn, vc, rfl⟩ := ints_sl (own_ints O2)
    have HF : Hid (Own w2 w.heap.size _ (idsG G.objs ps)) := own_base O2 sz1
    have HFB : Hid _ := HB1.out.trans (b2.mono sz1)
    clear L7 O2 b2
    go_wp2
    go_ret
    exact ⟨_, rfl, HF.out, HFB.out⟩
end Go.Proofs.Ytdogibjgogcdkab.gr
namespace Go.Proofs.Ytdogibjgogcdkab.rows
open Go.RowKit
set_option maxRecDepth 100000

set_option maxHeartbeats 1000000 in
theorem likeInts_any {w : World} {v1 v2 : Value} {xs ys : List Int} (h1 : IntsAt w v1 xs) (h2 : IntsAt w v2 ys) (hl : xs.length ≤ 1048576) :
    Calls Try.prog 14 #[v1, v2] w fun e w' => e = .returned (.bool (decide (xs = ys))) ∧ ∃ n, w' = w.drewN n := by
  obtain ⟨a, cap, rfl, hlc, hcm, _, hc⟩ := h1
  obtain ⟨a', cap', rfl, hlc', hcm', _, hc'⟩ := h2
  by_cases hn : xs.length = ys.length
  · have HC : Hid (0 < xs.length → ∃ b off, a = some ⟨b, off, none⟩ ∧ b < w.heap.size ∧ ∀ i, i < xs.length → w.cell? ⟨b, off + i, none⟩ = some (.int .i64 (xs.getD i 0))) := hc
    have HC' : Hid (0 < ys.length → ∃ b off, a' = some ⟨b, off, none⟩ ∧ b < w.heap.size ∧ ∀ i, i < ys.length → w.cell? ⟨b, off + i, none⟩ = some (.int .i64 (ys.getD i 0))) := hc'
    clear hc hc'
    have hni : (xs.length : Int) = (ys.length : Int) := by omega
    go_enter Try.func14, Try.ntmps14
    go_wp2_with fail
    go_loopw [5] (fun i wr => ∃ k n : Nat, k ≤ xs.length ∧ i = .int .i64 k ∧ xs.take k = ys.take k ∧ wr = w.drewN n) (fun i _ => xs.length - (intOf i).toNat)
    case atStart => exact ⟨0, 0, Nat.zero_le _, rfl, by simp, rfl⟩
    case round =>
      obtain ⟨k, n, hk, rfl, ht, rfl⟩ := hrel
      by_cases hlt : k < xs.length
      · obtain ⟨b, off, rfl, hb, hc⟩ := HC.out (by omega)
        obtain ⟨b', off', rfl, hb', hc'⟩ := HC'.out (by omega)
        have c0 := hc k hlt
        have c1 := hc' k (by omega)
        have HT : Hid (xs.getD k 0 = ys.getD k 0 → xs.take (k + 1) = ys.take (k + 1)) := fun e => take_succ_eq ht hlt (by omega) e
        have HN : Hid (¬ xs.getD k 0 = ys.getD k 0 → decide (xs = ys) = false) := fun e => by simp only [decide_eq_false_iff_not]; intro e'; subst e'; exact e rfl
        clear hc hc' ht HC HC'
        have hlt' : k < ys.length := by omega
        generalize xs.getD k 0 = x at *
        generalize ys.getD k 0 = y at *
        by_cases hxy : x = y
        · go_wp2
          go_quiet (fail)
          go_wp2
          exact ⟨⟨k + 1, n + nq, by omega, by go_num, HT hxy, rfl⟩, by simp [intOf]; omega⟩
        · go_wp2
          go_quiet (fail)
          go_wp2
          go_ret
          exact ⟨by rw [HN hxy]; rfl, n + nq, by rw [World.drewN_drewN]⟩
      · have e : xs = ys := by
          have e1 : xs.take k = xs := List.take_of_length_le (by omega)
          have e2 : ys.take k = ys := List.take_of_length_le (by omega)
          rw [← e1, ht, e2]
        have HE : Hid (decide (xs = ys) = true) := by show _ = true; simpa using e
        clear ht e HC HC'
        go_wp2
        go_ret
        exact ⟨by rw [HE.out]; rfl, _, rfl⟩
  · have hni : ¬ (xs.length : Int) = (ys.length : Int) := by omega
    clear hc hc'
    go_enter Try.func14, Try.ntmps14
    go_wp2
    go_ret
    exact ⟨by rw [decide_eq_false (fun e => hn (by rw [e]))]; rfl, 0, rfl⟩

theorem likeInts_same {w : World} {v1 v2 : Value} {xs : List Int} (h1 : IntsAt w v1 xs) (h2 : IntsAt w v2 xs) (hl : xs.length ≤ 1048576) :
    Calls Try.prog 14 #[v1, v2] w fun e w' => e = .returned (.bool true) ∧ ∃ n, w' = w.drewN n :=
  (likeInts_any h1 h2 hl).mono fun _ _ ⟨he, hw⟩ => ⟨by rw [he]; simp, hw⟩
end Go.Proofs.Ytdogibjgogcdkab.rows
namespace Go.Proofs.Ytdogibjgogcdkab.gr
open Go.RowKit rows heads
set_option maxRecDepth 100000
set_option linter.unusedVariables false

/-- The drawn graph in its box, with nothing changed that was there. -/
structure LS (w wz : World) (P : Nat) (o r m : Value) (ms : List MO) (G : Gr) : Prop where
  gat : GraphAt wz o r m ms G
  five : Five wz P 55 o r m (.int .i64 G.next) (.int .i64 G.seed)
  bel : Below w.heap.size w wz
theorem LS.below {w wz w' : World} {P : Nat} {o r m : Value} {ms : List MO} {G : Gr} (h : LS w wz P o r m ms G) (hb : Below wz.heap.size wz w') : LS w w' P o r m ms G := ⟨graphAt_below h.gat hb, five_below h.five hb, h.bel.trans (hb.mono h.bel.size)⟩
theorem LS.drewN {w wz : World} {P n : Nat} {o r m : Value} {ms : List MO} {G : Gr} (h : LS w wz P o r m ms G) : LS w (wz.drewN n) P o r m ms G := h.below ⟨rfl, rfl, rfl, Nat.le_refl _, fun _ _ => rfl⟩
theorem own_dn {w : World} {base n : Nat} {v : Value} {xs : List Int} (h : Own w base v xs) : Own (w.drewN n) base v xs := own_below h ⟨rfl, rfl, rfl, Nat.le_refl _, fun _ _ => rfl⟩
theorem pick_rises {G : Gr} (h : Right G) (f : Nat → Bool) : ∀ i, 0 < i → i < (pick G.objs f G.objs.length).length → ¬ (pick G.objs f G.objs.length).getD i 0 ≤ (pick G.objs f G.objs.length).getD (i - 1) 0 := by
  have hp : (pick G.objs f G.objs.length).Pairwise (· < ·) := by
    unfold pick
    rw [List.pairwise_map]
    have h1 : ((List.range G.objs.length).filter f).Pairwise (· < ·) := List.pairwise_lt_range.filter _
    refine List.Pairwise.imp_of_mem ?_ h1
    intro a b ha hb hab
    have hb := List.mem_range.1 (List.mem_filter.1 hb).1
    exact gOk_rise h.gOk a b hab hb
  intro i h0 hi
  have := List.pairwise_iff_getElem.1 hp (i - 1) i (by omega) hi (by omega)
  rw [List.getD_eq_getElem?_getD, List.getD_eq_getElem?_getD, List.getElem?_eq_getElem hi, List.getElem?_eq_getElem (show i - 1 < _ by omega)]
  simp only [Option.getD_some]
  omega

/-- One more list of refs behind a row of the call's own, nil or not. -/
theorem step_app_refs {ops : Array Oper} {o : Oper} {a : Act} {w : World} {K : Act → World → Prop} {Q : Exit → Act → World → Prop} {E : Prop} (hgd : o.guard = none) (s x : Operand)
    (ho : o.op = .call { callee := .builtin .append, args := #[s, x], argTypes := #[53, 53] }) (base : Nat) (v : Value) (n : Nat) (es : List Rf) (hs : a.eval s = v) (hown : w.ownsRow base 67 2 v n (cellsR es))
    (u : Value) (ys : List Rf) (hx : a.eval x = u) (hR : RefsAt w u ys) (hb : n + ys.length ≤ 1048576) (hbase : base ≤ w.heap.size)
    (h : ∀ v' w', w'.ownsRow base 67 2 v' (n + ys.length) (cellsR es ++ cellsR ys) → w.grownBy w' v.ownBlock → (v'.ownBlock = v.ownBlock ∨ v'.ownBlock = some w.heap.size) → K (a.put o.dst v') w') :
    if Region.wanted o (yielded ops a.tmps) = true then Oper.wp Try.prog o a w K Q else E := by
  obtain ⟨i0, hi, hz0, hz1, hz2⟩ := info_parts infoR
  obtain ⟨ad, cap, e, hlc, hcm, hnil, _⟩ := id hR
  subst e
  cases ad with
  | some ad => exact step_append_own_at hgd s x _ ho base 67 i0 (.agg #[.int .i64 0, .int .i64 0]) 2 16 Try.underlying53 hi hz0 hz1 hz2 rfl (by decide) v n (cellsR es) hs hown ad ys.length cap (cellsR ys) hx (cellsR_length ys) (refs_news hR) (cellsR_one ys) (by unfold maxLen; omega) (by omega) hbase h
  | none =>
    have hc := hnil rfl
    have hy : ys = [] := List.eq_nil_of_length_eq_zero (by omega)
    subst hy hc
    have hw : Region.wanted o (yielded ops a.tmps) = true := by simp [Region.wanted, hgd]
    rw [if_pos hw]
    have hrun := run_append_owned_none (P := Try.prog) (w := w) base 53 o.type 67 i0 2 Try.underlying53 hi v n (cellsR es) hown
    have hx' : a.eval x = .slice none 0 0 := hx
    unfold Oper.wp
    simp [execOp, ho, resolve, invoke, builtin, hs, hx', hrun, Result.andThen]
    exact h v w (by simpa [cellsR] using hown) ⟨rfl, rfl, rfl, Nat.le_refl _, fun _ _ _ => rfl⟩ (.inl rfl)

set_option maxHeartbeats 16000000 in
theorem leastLaw (a0 : Option Addr) (len0 cap0 : Nat) (w : World)
    (DR : len0 ≤ 4096 → ∀ W, Below w.heap.size w W → Calls Try.prog 44 #[.slice a0 len0 cap0] W fun e w' => ∃ (o r m : Value) (ms : List MO) (G : Gr), e = .returned (gv o r m G.next G.seed) ∧ GKeep w' W.heap.size o r m ms G ∧ gSize ms G ≤ 1048576 ∧ Below W.heap.size W w') :
    Calls Try.prog 7 #[.slice a0 len0 cap0] w fun e w' => e = .returned (.bool true) ∧ Below w.heap.size w w' := by
  have hl : 4096 < len0 ∨ len0 ≤ 4096 := by omega
  rcases hl with hl | hl
  · have hl' : (4096 : Int) < (len0 : Int) := by omega
    clear DR
    go_enter Try.func7, Try.ntmps7
    go_wp2
    go_ret
    exact ⟨rfl, Below.refl _ _⟩
  · have hl' : ¬ (4096 : Int) < (len0 : Int) := by omega
    have DD := DR hl w (Below.refl _ _)
    clear DR
    go_enter Try.func7, Try.ntmps7
    go_wp2_with (go_at_call 8; go_in)
    refine DD.mono ?_
    rintro e w1 ⟨o, r, m, ms, G, rfl, K1, Z, b1⟩
    have A1 := K1 w1 [] (Ch.refl _ _) (fun k hk => by cases hk)
    obtain ⟨a1, n1, c1, a2, n2, c2, a3, n3, c3, e1, e2, e3⟩ := graphAt_slices A1
    subst e1 e2 e3
    obtain ⟨xs, hx⟩ := isReached_ex G
    obtain ⟨ys, hy⟩ := isGrieving_ex G
    have N1 : Below w1.heap.size w1 (w1.alloc (gb (.slice a1 n1 c1) (.slice a2 n2 c2) (.slice a3 n3 c3) G.next G.seed)) := (Below.refl _ _).alloc (Nat.le_refl _) _
    have L1 : LS w (w1.alloc (gb (.slice a1 n1 c1) (.slice a2 n2 c2) (.slice a3 n3 c3) G.next G.seed)) w1.heap.size (.slice a1 n1 c1) (.slice a2 n2 c2) (.slice a3 n3 c3) ms G := ⟨graphAt_below A1 N1, five_new w1 _ _ _ _ _ _, b1.trans (N1.mono b1.size)⟩
    have IR := implReached L1.gat Z hx
    obtain ⟨z0, z1, z2, z3, z4, _⟩ := five_cells L1.five
    have HL1 : Hid _ := L1
    have HX : Hid _ := hx
    have HY : Hid _ := hy
    have hxl : xs.length ≤ 1048576 := Nat.le_trans (isReached_len hx) (by decide)
    have hyl : ys.length ≤ 1048576 := Nat.le_trans (isGrieving_len hy) (by decide)
    clear K1 A1 N1 L1 DD b1 hx hy
    go_wp2_with fail
    generalize (w1.alloc (gb (.slice a1 n1 c1) (.slice a2 n2 c2) (.slice a3 n3 c3) G.next G.seed)) = X1 at *
    generalize w1.heap.size = P at *
    refine IR.mono ?_
    rintro e w3 ⟨v3, rfl, O3, b3⟩
    obtain ⟨xa, xc, rfl, _, _, _, _⟩ := own_ints O3
    have L3 := HL1.out.below b3
    have IG := implGrieving L3.gat Z HY.out
    obtain ⟨z0, z1, z2, z3, z4, _⟩ := five_cells L3.five
    have HL3 : Hid _ := L3
    have HO3 : Hid _ := O3
    clear IR b3 L3 HL1 O3
    go_wp2_with fail
    refine IG.mono ?_
    rintro e w4 ⟨v4, rfl, O4, b4⟩
    obtain ⟨ya, yc, rfl, _, _, _, _⟩ := own_ints O4
    have L4 := HL3.out.below b4
    have SR := sReached_any L4.gat Z HX.out
    obtain ⟨z0, z1, z2, z3, z4, _⟩ := five_cells L4.five
    have HL4 : Hid _ := L4
    have HO34 : Hid _ := own_below HO3.out b4
    have HO4 : Hid _ := O4
    clear IG b4 L4 HL3 O4 HO3
    go_wp2_with fail
    refine SR.mono ?_
    rintro e w5 ⟨v5, rfl, O5, b5⟩
    obtain ⟨sa5, sc5, rfl, _, _, _, _⟩ := own_ints O5
    have L5 := HL4.out.below b5
    have HO35 : Hid _ := own_below HO34.out b5
    have HO45 : Hid _ := own_below HO4.out b5
    have HL5 : Hid _ := L5
    have LI := likeInts_same (own_ints HO35.out) (own_ints O5) hxl
    clear SR b5 L5 HL4 O5 HO34 HO4
    go_wp2_with fail
    refine LI.mono ?_
    rintro e w6 ⟨rfl, q6, rfl⟩
    have L6 := HL5.out.drewN (n := q6)
    have SG := sGrieving_any L6.gat Z HY.out
    obtain ⟨z0, z1, z2, z3, z4, _⟩ := five_cells L6.five
    have HL6 : Hid _ := L6
    have HO36 : Hid _ := own_dn (n := q6) HO35.out
    have HO46 : Hid _ := own_dn (n := q6) HO45.out
    clear LI L6 HL5 HO35 HO45
    generalize w5.drewN q6 = w6 at *
    go_wp2_with fail
    refine SG.mono ?_
    rintro e w7 ⟨v7, rfl, O7, b7⟩
    obtain ⟨sa7, sc7, rfl, _, _, _, _⟩ := own_ints O7
    have HL7 : Hid _ := HL6.out.below b7
    have HO37 : Hid _ := own_below HO36.out b7
    have HO47 : Hid _ := own_below HO46.out b7
    have LI := likeInts_same (own_ints HO47.out) (own_ints O7) hyl
    clear SG b7 HL6 O7 HO36 HO46
    go_wp2_with fail
    refine LI.mono ?_
    rintro e w8 ⟨rfl, q8, rfl⟩
    have HL8 : Hid _ := HL7.out.drewN (n := q8)
    have HO38 : Hid _ := own_dn (n := q8) HO37.out
    have HO48 : Hid _ := own_dn (n := q8) HO47.out
    have RI := rises_any (w := w7.drewN q8) (own_ints HO38.out) hxl (by
      rcases HX.out with ⟨_, e⟩ | ⟨ok, g, hg, e⟩
      · rw [e]; intro i h1 h2; simp at h2
      · rw [e]; exact pick_rises (right_of ok) g)
    clear LI HL7 HO37 HO47
    generalize w7.drewN q8 = w8 at *
    go_wp2_with fail
    refine RI.mono ?_
    rintro e w9 ⟨rfl, q9, rfl⟩
    have L9 := HL8.out.drewN (n := q9)
    have GO := sGraphOk_any L9.gat Z
    obtain ⟨z0, z1, z2, z3, z4, _⟩ := five_cells L9.five
    have HL9 : Hid _ := L9
    have HO39 : Hid _ := own_dn (n := q9) HO38.out
    have HO49 : Hid _ := own_dn (n := q9) HO48.out
    clear RI L9 HL8 HO38 HO48
    generalize w8.drewN q9 = w9 at *
    go_wp2_with fail
    refine GO.mono ?_
    rintro e wA ⟨rfl, bA⟩
    have HLA : Hid _ := HL9.out.below bA
    have HO3A : Hid _ := own_below HO39.out bA
    have HO4A : Hid _ := own_below HO49.out bA
    clear GO bA HL9 HO39 HO49
    cases ok : gOk G
    · have ex : xs = [] := by
        rcases HX.out with ⟨_, e⟩ | ⟨ok', _⟩
        · exact e
        · rw [ok] at ok'; cases ok'
      have ey : ys = [] := by
        rcases HY.out with ⟨_, e⟩ | ⟨ok', _⟩
        · exact e
        · rw [ok] at ok'; cases ok'
      subst ex ey
      have HB : Hid _ := HLA.out.bel
      have e0 : (([] : List Int).length : Int) = 0 := rfl
      clear HX HY HO3A HO4A HLA
      go_wp2
      go_ret
      exact ⟨rfl, HB.out⟩
    · have hR := right_of ok
      obtain ⟨f, hf, hxs⟩ : ∃ f : Nat → Bool, (∀ p, f p = true ↔ Rch G p) ∧ xs = pick G.objs f G.objs.length := by
        rcases HX.out with ⟨e, _⟩ | ⟨_, g, hg, e⟩
        · rw [ok] at e; cases e
        · exact ⟨g, hg, e⟩
      obtain ⟨ps, hps, hys⟩ : ∃ ps, IsG G ps ∧ ys = idsP G.objs ps := by
        rcases HY.out with ⟨e, _⟩ | ⟨_, ps, e, e2⟩
        · rw [ok] at e; cases e
        · exact ⟨ps, e, e2⟩
      have HXS : Hid _ := hxs
      have HYS : Hid _ := hys
      have HPS : Hid _ := hps
      have HF : Hid _ := hf
      have HRT : Hid _ := hR
      have hlr := (gOk_len ok).2.1
      have hLen : (G.roots ++ G.mourned).length ≤ 60 := by
        have := (gOk_len ok)
        rw [List.length_append]
        omega
      have HLR : Hid _ := hlr
      have HLN : Hid _ := hLen
      have hmo : G.mourned.length ≤ 1000 := by rw [List.length_append] at hLen; omega
      have hro1 : G.roots.length ≤ 1000 := by omega
      have hro2 : 0 < G.roots.length := by omega
      have B0 : Below wA.heap.size wA (wA.alloc (.cells #[] 2)) := (Below.refl _ _).alloc (Nat.le_refl _) _
      have HOL0 : Hid (OwnT 2 (wA.alloc (.cells #[] 2)) wA.heap.size (.slice (some ⟨wA.heap.size, 0, none⟩) 0 0) []) := ownT_empty (Nat.le_refl _)
      have hN0 : wA.heap.size < (wA.alloc (.cells #[] 2)).heap.size := by simp
      have HB0 : Hid _ := B0
      have HRO : Hid (RefsAt (wA.alloc (.cells #[] 2)) (.slice a2 n2 c2) G.roots) := refsAt_below HLA.out.gat.2.2.1 B0
      have HMO : Hid (RefsAt (wA.alloc (.cells #[] 2)) (.slice a3 n3 c3) G.mourned) := refsAt_below HLA.out.gat.2.2.2 B0
      obtain ⟨_, x1, x2, _, _, _⟩ := five_cells (five_below HLA.out.five B0)
      clear B0 hxs hys hps hf hR HX HY hlr hLen
      go_wp2_with fail
      generalize (wA.alloc (Obj.cells #[] 2)) = WB at *
      have bX : Below WB.heap.size WB (WB.alloc (.cells #[] 67)) := (Below.refl _ _).alloc (Nat.le_refl _) _
      have y1 := (bX.cell (p := ⟨P, 1, none⟩) (cell_lt x1)).trans x1
      have y2 := (bX.cell (p := ⟨P, 2, none⟩) (cell_lt x2)).trans x2
      have HRW : Hid ((WB.alloc (.cells #[] 67)).ownsRow WB.heap.size 67 2 (.slice (some ⟨WB.heap.size, 0, none⟩) 0 0) 0 (cellsR [])) := ⟨rfl, .inr ⟨WB.heap.size, 0, #[], rfl, Nat.le_refl _, heap_alloc_new WB _, Nat.le_refl _, by decide, rfl, rfl⟩⟩
      have HRX : Hid _ := refsAt_below HRO.out bX
      have HA5 : Hid (∀ W w5 : World, W.grownBy w5 (some WB.heap.size) → Below (WB.alloc (.cells #[] 67)).heap.size (WB.alloc (.cells #[] 67)) W → (w5.cell? ⟨P, 1, none⟩ = some (.slice a2 n2 c2) ∧ w5.cell? ⟨P, 2, none⟩ = some (.slice a3 n3 c3)) ∧ RefsAt w5 (.slice a3 n3 c3) G.mourned ∧ Below WB.heap.size WB w5) := fun W w5 hg hW => by
        have BW := bX.trans (hW.mono bX.size)
        have B5 := BW.grown hg BW.size (fun k e => by cases e; exact Nat.le_refl _)
        exact ⟨⟨(B5.cell (cell_lt x1)).trans x1, (B5.cell (cell_lt x2)).trans x2⟩, refsAt_below HMO.out B5, B5⟩
      have sX : WB.heap.size ≤ (WB.alloc (.cells #[] 67)).heap.size := bX.size
      clear bX
      go_cut [7] from 52 to 58 (fun v wr => ∃ g c : Nat, v = .slice (some ⟨g, 0, none⟩) (G.roots.length + G.mourned.length) c ∧ Hid (wr.ownsRow WB.heap.size 67 2 (.slice (some ⟨g, 0, none⟩) (G.roots.length + G.mourned.length) c) (G.roots.length + G.mourned.length) (cellsR G.roots ++ cellsR G.mourned)) ∧ Hid (Below WB.heap.size WB wr))
      case first =>
        go_region_law (first
          | (refine step_app_refs rfl (.tmp 52) (.tmp 54) rfl WB.heap.size (.slice (some ⟨WB.heap.size, 0, none⟩) 0 0) 0 [] rfl HRW.out (.slice a2 n2 c2) G.roots rfl HRX.out (by omega) sX ?_; clear HRW; intro v5 w5 r5 g5 f5; rw [Nat.zero_add] at r5; have r5' : w5.ownsRow WB.heap.size 67 2 v5 G.roots.length (cellsR G.roots) := r5; obtain ⟨g, c, rfl⟩ := rowR_form r5' (by omega); obtain ⟨⟨u1, u2⟩, rm, B5⟩ := HA5.out _ w5 g5 ⟨rfl, rfl, rfl, Nat.le_refl _, fun _ _ => rfl⟩; have HR5 : Hid _ := r5'; have HM5 : Hid _ := rm; have HB5 : Hid _ := B5; have s5 := B5.size; clear r5 r5' rm B5 g5 f5)
          | (refine step_app_refs rfl (.tmp 55) (.tmp 57) rfl WB.heap.size (.slice (some ⟨g, 0, none⟩) G.roots.length c) G.roots.length G.roots rfl HR5.out (.slice a3 n3 c3) G.mourned rfl HM5.out (by omega) s5 ?_; intro v6 w6 r6 g6 f6; obtain ⟨g', c', rfl⟩ := rowR_form r6 (by omega); have HR6 : Hid _ := r6; have HB6 : Hid _ := HB5.out.grown g6 s5 (fun k e => (World.ownsRow.lt HR5.out k e).1); clear HR5 r6 g6 f6))
        all_goals
          go_wp2_with fail
          go_meet
          exact ⟨_, _, rfl, HR6, HB6⟩
      obtain ⟨g6, c6, rfl, HR6, HB6⟩ := hcut
      have hlen6 : G.roots.length + G.mourned.length = (G.roots ++ G.mourned).length := by rw [List.length_append]
      have HR7 : Hid _ := HR6.out
      rw [hlen6, ← cellsR_append] at HR7
      have ROW : OwnR _ WB.heap.size (.slice (some ⟨g6, 0, none⟩) (G.roots ++ G.mourned).length c6) (G.roots ++ G.mourned) := HR7.out
      obtain ⟨es, hes⟩ : ∃ es, es = G.roots ++ G.mourned := ⟨_, rfl⟩
      have HES : Hid _ := hes
      rw [← hes] at ROW hlen6
      rw [hlen6]
      have hes60 : es.length ≤ 60 := by have := HLN.out; rw [← hes] at this; exact this
      have HALL : Hid _ := ROW
      have HB7 : Hid (Below wA.heap.size wA wc) := HB0.out.trans (HB6.out.mono HB0.out.size)
      have HOL : Hid (OwnT 2 wc wA.heap.size (.slice (some ⟨wA.heap.size, 0, none⟩) 0 0) []) := row_below HOL0.out HB6.out
      have hg6 : WB.heap.size ≤ g6 := (blk_lt ROW g6 (by simp [blk_some])).1
      obtain ⟨i0, hi0, hz0, hz1, hz2⟩ := info_parts info
      have HI0 : Hid _ := hi0
      have HZ0 : Hid _ := hz0
      have HZ1 : Hid _ := hz1
      have HZ2 : Hid _ := hz2
      clear hi0 hz0 hz1 hz2 x1 x2 y1 y2 HR6 HR7 HA5 HRX HRO HMO HRW HOL0 HB6 HB0 ROW hlen6 hes hro1 hro2 hmo sX
      go_wp2_with fail
      go_loopw [6, 8] (fun v p wr => ∃ (k : Nat) (vv : Value), vv = v ∧ k ≤ es.length ∧ p = .int .i64 k ∧ OwnT 2 wr wA.heap.size vv (ledR es k) ∧ (∀ b ∈ blk vv, b ≠ g6) ∧ OwnR wr WB.heap.size (.slice (some ⟨g6, 0, none⟩) es.length c6) es ∧ Below wA.heap.size wA wr) (fun _ p _ => es.length - (intOf p).toNat)
      case atStart => exact ⟨0, _, rfl, Nat.zero_le _, rfl, HOL.out, fun b hb => (by simp [blk, Value.ownBlock] at hb; omega), HALL.out, HB7.out⟩
      case round =>
        obtain ⟨k, vv, rfl, hk, rfl, hO, hbk, hP, hB⟩ := hrel
        clear HOL HALL HB7
        by_cases hlt : k < es.length
        · have hlt' : (k : Int) < (es.length : Int) := by omega
          obtain ⟨r0, r1⟩ := ownR_cell hP hlt
          have HNX : Hid _ := show ledR es (k + 1) = ledR es k ++ if (es.getD k refD).1 == 2 then [(es.getD k refD).2] else [] from rfl
          have hpl := ledR_len es k
          generalize es.getD k refD = e at *
          obtain ⟨e1, e2⟩ := e
          simp only at r0 r1 HNX
          by_cases h2 : e1 = 2
          · subst h2
            rw [if_pos (show ((2 : Int) == 2) = true from rfl)] at HNX
            obtain ⟨va, vc, hvv⟩ := ownT_slice hO
            subst hvv
            have HOA : Hid (OwnT 2 (wr.alloc (.cells #[.int .i64 e2] 2)) wA.heap.size (.slice va (ledR es k).length vc) (ledR es k)) := row_below hO ((Below.refl _ _).alloc (Nat.le_refl _) _)
            have hba : wA.heap.size ≤ (wr.alloc (.cells #[.int .i64 e2] 2)).heap.size := by have := hB.size; simp; omega
            have HNW : Hid _ := one_new wr 2 e2
            have HSTEP : Hid (∀ (v' : Value) (w5 : World), w5.ownsRow wA.heap.size 2 1 v' ((ledR es k).length + 1) (cellsOf (ledR es k) ++ [.int .i64 e2]) → (wr.alloc (.cells #[.int .i64 e2] 2)).grownBy w5 (Value.slice va (ledR es k).length vc).ownBlock → (v'.ownBlock = (Value.slice va (ledR es k).length vc).ownBlock ∨ v'.ownBlock = some (wr.alloc (.cells #[.int .i64 e2] 2)).heap.size) → (∃ a n c, v' = .slice a n c) ∧ OwnT 2 w5 wA.heap.size v' (ledR es (k + 1)) ∧ (∀ b ∈ blk v', b ≠ g6) ∧ OwnR w5 WB.heap.size (.slice (some ⟨g6, 0, none⟩) es.length c6) es ∧ Below wA.heap.size wA w5) := fun v' w5 hown hgrow hat => by
              obtain ⟨on, ch, nb⟩ := app_num hO hown hgrow hat
              rw [HNX.out]
              obtain ⟨a', c', e'⟩ := ownT_slice on
              have hg := (blk_lt hP g6 (by simp [blk_some])).2
              refine ⟨⟨_, _, _, e'⟩, on, fun b hb => ?_, row_ch hP ch (fun k hk e => by simp [blk_some] at hk; subst hk; exact hbk _ e rfl), hB.trans (below_ch ch hB.size fun b hb => (blk_lt hO b hb).1)⟩
              rcases nb b hb with e | e
              · exact hbk b e
              · omega
            clear hO hbk hP hB HNX
            generalize hqs : ledR es k = qs at *
            clear hqs
            go_wp2_with (refine wpList_append_own_at _ rfl (.tmp 71) (.tmp 77) 24 rfl wA.heap.size 2 i0 (.int .i64 0) 1 8 Try.underlying24 HI0.out HZ0.out HZ1.out HZ2.out rfl (by decide) (.slice va qs.length vc) qs.length (cellsOf qs) rfl HOA.out ⟨wr.heap.size, 0, none⟩ 1 1 [.int .i64 e2] rfl rfl HNW.out (by simp [Value.oneCell']) (by unfold maxLen; omega) (by omega) hba ?_; intro v' w5 hown hgrow _ hat; obtain ⟨⟨va', vn', vc', rfl⟩, st⟩ := HSTEP.out v' w5 hown hgrow hat; have HST : Hid _ := st; clear st hown hgrow hat)
            exact ⟨⟨k + 1, _, rfl, by omega, by go_num, HST.out⟩, by simp [intOf]; omega⟩
          · have h2' : (e1 == 2) = false := by simpa using h2
            rw [h2', if_neg (by simp), List.append_nil] at HNX
            have HST : Hid (OwnT 2 wr wA.heap.size vv (ledR es (k + 1)) ∧ (∀ b ∈ blk vv, b ≠ g6) ∧ OwnR wr WB.heap.size (.slice (some ⟨g6, 0, none⟩) es.length c6) es ∧ Below wA.heap.size wA wr) := ⟨by rw [HNX.out]; exact hO, hbk, hP, hB⟩
            clear hO hbk hP hB HNX
            go_wp2
            exact ⟨⟨k + 1, _, rfl, by omega, by go_num, HST.out⟩, by simp [intOf]; omega⟩
        · have e : k = es.length := by omega
          subst e
          have hO2 : OwnT 2 wr wA.heap.size vv (ledK G f 0) := by
            have := hO
            rw [HES.out] at this
            exact this
          have HOL : Hid _ := hO2
          have HB7 : Hid _ := hB
          clear hO hbk hP hB hO2
          obtain ⟨ao, co, eo, _⟩ := HLA.out.gat.2.1.1
          injection eo with eo1 eo2 eo3
          subst eo1 eo2 eo3
          have hml : ms.length ≤ 200 := by have := graphAt_len HLA.out.gat; have := (gOk_len ok).1; omega
          go_wp2_with fail
          clear HES
          go_loopw [6, 9] (fun v p wy => ∃ (k : Nat) (vv : Value), vv = v ∧ k ≤ ms.length ∧ p = .int .i64 k ∧ OwnT 2 wy wA.heap.size vv (ledK G f k) ∧ Below wA.heap.size wA wy) (fun _ p _ => ms.length - (intOf p).toNat)
          case atStart => exact ⟨0, _, rfl, Nat.zero_le _, rfl, HOL.out, HB7.out⟩
          case round =>
            clear HOL HB7
            obtain ⟨k, vv, rfl, hk, rfl, hO, hB⟩ := hrel
            obtain ⟨z0, _⟩ := five_cells (five_below HLA.out.five hB)
            by_cases hlt : k < ms.length
            · have hlt' : (k : Int) < (ms.length : Int) := by omega
              have hkG : k < G.objs.length := by have := graphAt_len HLA.out.gat; omega
              obtain ⟨ao, co, eo, _, _, _, hco⟩ := orowAt_below HLA.out.gat.2.1.1 hB
              injection eo with eo1 eo2 eo3
              subst eo1 eo3
              obtain ⟨b, off, rfl, hb, hcc⟩ := hco (by omega)
              obtain ⟨x0, x1, x2, x3, x4⟩ := hcc k hlt
              have hsl := HLA.out.gat.2.1.2 _ (mem_getD hlt)
              have hget := graphAt_get HLA.out.gat k
              have hpl := ledK_len HRT.out f k (by omega)
              have hpl2 : (ledK G f k).length ≤ 5000 := by have := HLN.out; omega
              clear hcc hco eo2 hpl
              generalize hM : ms.getD k moD = M at *
              obtain ⟨mi, mc, mf, mh, msv, msl⟩ := M
              simp only at x0 x1 x2 x3 x4 hsl
              have hid : (G.objs.getD k obD).id = mi := by rw [← hget]; rfl
              have hfm : (G.objs.getD k obD).fmt = mf := by rw [← hget]; rfl
              have hss : (G.objs.getD k obD).slots = msl := by rw [← hget]; rfl
              have hm20 : msl.length ≤ 20 := by have := (hok_true (obOk_lt (HRT.out.ob k hkG)).2.2.2).2.1; rw [hss] at this; omega
              obtain ⟨sa, sc, hsv, _⟩ := id hsl
              subst hsv
              have b1 : Below wr.heap.size wr (wr.alloc (ob ⟨mi, mc, mf, mh, .slice sa msl.length sc, msl⟩)) := (Below.refl _ _).alloc (Nat.le_refl _) _
              have B1 := hB.trans (b1.mono hB.size)
              have T1 : Five (wr.alloc (ob ⟨mi, mc, mf, mh, .slice sa msl.length sc, msl⟩)) wr.heap.size 72 (.int .i64 mi) (.int .i64 mc) (.int .i64 mf) (.int .i64 mh) (.slice sa msl.length sc) := heap_alloc_new wr (ob ⟨mi, mc, mf, mh, .slice sa msl.length sc, msl⟩)
              obtain ⟨y0, y1, y2, y3, y4, _⟩ := five_cells T1
              have HO1 : Hid (OwnT 2 (wr.alloc (ob ⟨mi, mc, mf, mh, .slice sa msl.length sc, msl⟩)) wA.heap.size vv (ledK G f k)) := row_below hO b1
              have hnb : ∀ x ∈ blk vv, x ≠ wr.heap.size := fun x hx => by have := (blk_lt hO x hx).2; omega
              have HHAS : Hid (∀ W, Below wA.heap.size wA W → ∀ n : Int, Calls Try.prog 50 #[.slice xa xs.length xc, .int .i64 n] W fun e w' => e = .returned (.bool (decide (n ∈ xs))) ∧ w' = W) := fun W hW n => has_any (own_ints (own_below HO3A.out hW)) hxl n
              have HAS1 := HHAS.out _ B1 mi
              have hdk : decide (mi ∈ xs) = f k := by rw [HXS.out, ← hid]; exact pick_mem HRT.out hkG
              rw [hdk] at HAS1
              have HB1 : Hid _ := B1
              have HT1 : Hid _ := T1
              have HNB : Hid _ := hnb
              have HSL : Hid _ := hsl
              have HID : Hid _ := hid
              have HFM : Hid _ := hfm
              have HSS : Hid _ := hss
              have hQ : wA.heap.size ≤ wr.heap.size := hB.size
              clear hO hB b1 B1 T1 hnb hsl hget hM hid hfm hss hdk
              go_wp2_with fail
              refine HAS1.mono ?_
              rintro e w5 ⟨rfl, rfl⟩
              clear HAS1
              generalize (wr.alloc (Obj.cells #[.int .i64 mi, .int .i64 mc, .int .i64 mf, .int .i64 mh, .slice sa msl.length sc] 72)) = X at *
              generalize hQQ : wr.heap.size = Q at *
              clear hQQ
              cases hfk : f k
              · have HST : Hid (OwnT 2 X wA.heap.size vv (ledK G f (k + 1))) := by
                  show OwnT _ _ _ _ (ledK G f k ++ ledO G f k)
                  unfold ledO
                  rw [hfk, if_neg (by simp), List.append_nil]
                  exact HO1.out
                clear HO1 HNB HSL HID HFM HSS
                go_wp2
                exact ⟨⟨k + 1, _, rfl, by omega, by go_num, HST.out, HB1.out⟩, by simp [intOf]; omega⟩
              · obtain ⟨kb, hkb⟩ : ∃ kb, kb = keyB G f k := ⟨_, rfl⟩
                have HKB : Hid _ := hkb
                have hkb' := hkb
                unfold keyB at hkb'
                rw [HFM.out, HSS.out] at hkb'
                go_upto_region 22 with fail
                go_cut [11] from 96 to 115 (fun v wz => v = .bool kb ∧ wz = X)
                case first =>
                  by_cases h2 : mf = 2
                  · subst h2
                    have hs0 : 0 < msl.length := by have := eph_slots HRT.out hkG HFM.out; rw [HSS.out] at this; exact this
                    obtain ⟨a', c', e', _, _, _, hcc⟩ := refsAt_below HSL.out HB1.out
                    injection e' with e1 e2 e3
                    subst e1 e3
                    obtain ⟨sb, so, rfl, _, hc0⟩ := hcc hs0
                    obtain ⟨r0, r1⟩ := hc0 0 hs0
                    have hok0 : refOk G.objs (msl.getD 0 refD) = true := by have := HRT.out.sl k hkG 0 (by rw [HSS.out]; exact hs0); rw [HSS.out] at this; exact this
                    have HAS2 := HHAS.out X HB1.out (msl.getD 0 refD).2
                    have hled : (msl.getD 0 refD).1 = 2 → decide ((msl.getD 0 refD).2 ∈ xs) = f (atI G.objs (msl.getD 0 refD).2).toNat := fun h2 => by
                      obtain ⟨l1, l2⟩ := led_both hok0 h2
                      have hp : ledP G.objs (msl.getD 0 refD) < G.objs.length := ledP_lt l1
                      have := pick_mem HRT.out (f := f) hp
                      rw [l2, ← HXS.out] at this
                      exact this
                    clear hcc hc0 e2 hok0
                    generalize msl.getD 0 refD = s at *
                    obtain ⟨s1, s2⟩ := s
                    simp only [Nat.zero_mul, Nat.add_zero] at r0 r1 hled hkb' HAS2
                    by_cases hs : s1 = 2
                    · subst hs
                      rw [hled rfl] at HAS2
                      have e : kb = f (atI G.objs s2).toNat := by rw [hkb']; simp
                      rw [← e] at HAS2
                      clear hkb' e hled hkb
                      go_wp2_with fail
                      refine HAS2.mono ?_
                      rintro e w5 ⟨rfl, rfl⟩
                      clear HAS2
                      go_wp2_with fail
                      go_meet
                      exact ⟨rfl, rfl⟩
                    · have hs' : (s1 == 2) = false := by simpa using hs
                      have e : kb = true := by rw [hkb', hs']; simp
                      subst e
                      clear hkb' hkb hled HAS2
                      go_wp2_with fail
                      go_meet
                      exact ⟨rfl, rfl⟩
                  · have h2' : (mf == 2) = false := by simpa using h2
                    have e : kb = false := by rw [hkb', h2']; simp
                    subst e
                    clear hkb' hkb
                    go_wp2_with fail
                    go_meet
                    exact ⟨rfl, rfl⟩
                obtain ⟨rfl, rfl⟩ := hcut
                clear hkb hkb'
                go_wp2_with fail
                clear y0 y1 y2 y3 y4
                go_loopw [6, 12] (fun v p wz => ∃ (j : Nat) (uu : Value), uu = v ∧ j ≤ msl.length ∧ p = .int .i64 j ∧ OwnT 2 wz wA.heap.size uu (ledK G f k ++ ledJ G f k j) ∧ (∀ b ∈ blk uu, b ≠ Q) ∧ Five wz Q 72 (.int .i64 mi) (.int .i64 mc) (.int .i64 mf) (.int .i64 mh) (.slice sa msl.length sc) ∧ Below wA.heap.size wA wz) (fun _ p _ => msl.length - (intOf p).toNat)
                case atStart => exact ⟨0, _, rfl, Nat.zero_le _, rfl, by rw [show ledJ G f k 0 = [] from rfl, List.append_nil]; exact HO1.out, HNB.out, HT1.out, HB1.out⟩
                case round =>
                  obtain ⟨j, uu, rfl, hj, rfl, hO, hbk, hT, hB⟩ := hrel
                  obtain ⟨y0, y1, y2, y3, y4, _⟩ := five_cells hT
                  clear HO1 HNB HT1 HB1
                  by_cases hjl : j < msl.length
                  · have hjl' : (j : Int) < (msl.length : Int) := by omega
                    obtain ⟨a', c', e', _, _, _, hcc⟩ := refsAt_below HSL.out hB
                    injection e' with e1 e2 e3
                    subst e1 e3
                    obtain ⟨sb, so, rfl, _, hc0⟩ := hcc (by omega)
                    obtain ⟨r0, r1⟩ := hc0 j hjl
                    have hjb := ledJ_len G f k j
                    have hlb : (ledK G f k ++ ledJ G f k j).length ≤ 6000 := by rw [List.length_append]; omega
                    have HN0 : Hid (ledK G f k ++ ledJ G f k (j + 1) = ledK G f k ++ (ledJ G f k j ++ if onB G f k j = true then [(msl.getD j refD).2] else [])) := by
                      show _ = _
                      rw [← HSS.out]
                      rfl
                    have hon : onB G f k j = ((msl.getD j refD).1 == 2 && (mf == 0 || (kb && decide (0 < j)))) := by
                      unfold onB
                      rw [HSS.out, HFM.out, HKB.out]
                    clear hcc hc0 e2 hjb
                    generalize msl.getD j refD = e at *
                    obtain ⟨e1, e2⟩ := e
                    simp only at r0 r1 HN0 hon
                    by_cases h1 : e1 = 2
                    · subst h1
                      have h1b : ((2 : Int) == 2) = true := rfl
                      by_cases h0 : mf = 0
                      · subst h0
                        replace hon : onB G f k j = true := by rw [hon]; rfl
                        have HNX : Hid (ledK G f k ++ ledJ G f k (j + 1) = (ledK G f k ++ ledJ G f k j) ++ [e2]) := by show _ = _; rw [HN0.out, hon, if_pos rfl, List.append_assoc]
                        obtain ⟨va, vc, hvv⟩ := ownT_slice hO
                        subst hvv
                        have HOA : Hid (OwnT 2 (wr.alloc (.cells #[.int .i64 e2] 2)) wA.heap.size (.slice va (ledK G f k ++ ledJ G f k j).length vc) (ledK G f k ++ ledJ G f k j)) := row_below hO ((Below.refl _ _).alloc (Nat.le_refl _) _)
                        have hba : wA.heap.size ≤ (wr.alloc (.cells #[.int .i64 e2] 2)).heap.size := by have := hB.size; simp; omega
                        have HNW : Hid _ := one_new wr 2 e2
                        have HSTEP : Hid (∀ (v' : Value) (w5 : World), w5.ownsRow wA.heap.size 2 1 v' ((ledK G f k ++ ledJ G f k j).length + 1) (cellsOf (ledK G f k ++ ledJ G f k j) ++ [.int .i64 e2]) → (wr.alloc (.cells #[.int .i64 e2] 2)).grownBy w5 (Value.slice va (ledK G f k ++ ledJ G f k j).length vc).ownBlock → (v'.ownBlock = (Value.slice va (ledK G f k ++ ledJ G f k j).length vc).ownBlock ∨ v'.ownBlock = some (wr.alloc (.cells #[.int .i64 e2] 2)).heap.size) → (∃ a n c, v' = .slice a n c) ∧ OwnT 2 w5 wA.heap.size v' (ledK G f k ++ ledJ G f k (j + 1)) ∧ (∀ b ∈ blk v', b ≠ Q) ∧ Five w5 Q 72 (.int .i64 mi) (.int .i64 mc) (.int .i64 0) (.int .i64 mh) (.slice (some ⟨sb, so, none⟩) msl.length sc) ∧ Below wA.heap.size wA w5) := fun v' w5 hown hgrow hat => by
                          obtain ⟨on, ch, nb⟩ := app_num hO hown hgrow hat
                          rw [HNX.out]
                          obtain ⟨a', c', e'⟩ := ownT_slice on
                          have hg := lt_of_block hT
                          refine ⟨⟨_, _, _, e'⟩, on, fun b hb => ?_, five_ch hT ch (fun e => hbk _ e rfl), hB.trans (below_ch ch hB.size fun b hb => (blk_lt hO b hb).1)⟩
                          rcases nb b hb with e | e
                          · exact hbk b e
                          · omega
                        clear hO hbk hT hB HNX HN0 hon
                        generalize hqs : ledK G f k ++ ledJ G f k j = qs at *
                        clear hqs
                        go_wp2_with (refine wpList_append_own_at _ rfl (.tmp 142) (.tmp 149) 24 rfl wA.heap.size 2 i0 (.int .i64 0) 1 8 Try.underlying24 HI0.out HZ0.out HZ1.out HZ2.out rfl (by decide) (.slice va qs.length vc) qs.length (cellsOf qs) rfl HOA.out ⟨wr.heap.size, 0, none⟩ 1 1 [.int .i64 e2] rfl rfl HNW.out (by simp [Value.oneCell']) (by unfold maxLen; omega) (by omega) hba ?_; intro v' w5 hown hgrow _ hat; obtain ⟨⟨va', vn', vc', rfl⟩, st⟩ := HSTEP.out v' w5 hown hgrow hat; have HST : Hid _ := st; clear st hown hgrow hat)
                        exact ⟨⟨j + 1, _, rfl, by omega, by go_num, HST.out⟩, by simp [intOf]; omega⟩
                      · have h0' : (mf == 0) = false := by simpa using h0
                        rw [h0', h1b] at hon
                        cases kb
                        · replace hon : onB G f k j = false := by rw [hon]; rfl
                          have HST : Hid (OwnT 2 wr wA.heap.size uu (ledK G f k ++ ledJ G f k (j + 1)) ∧ (∀ b ∈ blk uu, b ≠ Q) ∧ Five wr Q 72 (.int .i64 mi) (.int .i64 mc) (.int .i64 mf) (.int .i64 mh) (.slice (some ⟨sb, so, none⟩) msl.length sc) ∧ Below wA.heap.size wA wr) := ⟨by rw [HN0.out, hon, if_neg (by simp), List.append_nil]; exact hO, hbk, hT, hB⟩
                          clear hO hbk hT hB HN0 hon
                          go_wp2
                          exact ⟨⟨j + 1, _, rfl, by omega, by go_num, HST.out⟩, by simp [intOf]; omega⟩
                        · by_cases hj0 : 0 < j
                          · have hj0' : (0 : Int) < (j : Int) := by omega
                            replace hon : onB G f k j = true := by rw [hon, decide_eq_true hj0]; rfl
                            have HNX : Hid (ledK G f k ++ ledJ G f k (j + 1) = (ledK G f k ++ ledJ G f k j) ++ [e2]) := by show _ = _; rw [HN0.out, hon, if_pos rfl, List.append_assoc]
                            obtain ⟨va, vc, hvv⟩ := ownT_slice hO
                            subst hvv
                            have HOA : Hid (OwnT 2 (wr.alloc (.cells #[.int .i64 e2] 2)) wA.heap.size (.slice va (ledK G f k ++ ledJ G f k j).length vc) (ledK G f k ++ ledJ G f k j)) := row_below hO ((Below.refl _ _).alloc (Nat.le_refl _) _)
                            have hba : wA.heap.size ≤ (wr.alloc (.cells #[.int .i64 e2] 2)).heap.size := by have := hB.size; simp; omega
                            have HNW : Hid _ := one_new wr 2 e2
                            have HSTEP : Hid (∀ (v' : Value) (w5 : World), w5.ownsRow wA.heap.size 2 1 v' ((ledK G f k ++ ledJ G f k j).length + 1) (cellsOf (ledK G f k ++ ledJ G f k j) ++ [.int .i64 e2]) → (wr.alloc (.cells #[.int .i64 e2] 2)).grownBy w5 (Value.slice va (ledK G f k ++ ledJ G f k j).length vc).ownBlock → (v'.ownBlock = (Value.slice va (ledK G f k ++ ledJ G f k j).length vc).ownBlock ∨ v'.ownBlock = some (wr.alloc (.cells #[.int .i64 e2] 2)).heap.size) → (∃ a n c, v' = .slice a n c) ∧ OwnT 2 w5 wA.heap.size v' (ledK G f k ++ ledJ G f k (j + 1)) ∧ (∀ b ∈ blk v', b ≠ Q) ∧ Five w5 Q 72 (.int .i64 mi) (.int .i64 mc) (.int .i64 mf) (.int .i64 mh) (.slice (some ⟨sb, so, none⟩) msl.length sc) ∧ Below wA.heap.size wA w5) := fun v' w5 hown hgrow hat => by
                              obtain ⟨on, ch, nb⟩ := app_num hO hown hgrow hat
                              rw [HNX.out]
                              obtain ⟨a', c', e'⟩ := ownT_slice on
                              have hg := lt_of_block hT
                              refine ⟨⟨_, _, _, e'⟩, on, fun b hb => ?_, five_ch hT ch (fun e => hbk _ e rfl), hB.trans (below_ch ch hB.size fun b hb => (blk_lt hO b hb).1)⟩
                              rcases nb b hb with e | e
                              · exact hbk b e
                              · omega
                            clear hO hbk hT hB HNX HN0 hon
                            generalize hqs : ledK G f k ++ ledJ G f k j = qs at *
                            clear hqs
                            go_wp2_with (refine wpList_append_own_at _ rfl (.tmp 142) (.tmp 149) 24 rfl wA.heap.size 2 i0 (.int .i64 0) 1 8 Try.underlying24 HI0.out HZ0.out HZ1.out HZ2.out rfl (by decide) (.slice va qs.length vc) qs.length (cellsOf qs) rfl HOA.out ⟨wr.heap.size, 0, none⟩ 1 1 [.int .i64 e2] rfl rfl HNW.out (by simp [Value.oneCell']) (by unfold maxLen; omega) (by omega) hba ?_; intro v' w5 hown hgrow _ hat; obtain ⟨⟨va', vn', vc', rfl⟩, st⟩ := HSTEP.out v' w5 hown hgrow hat; have HST : Hid _ := st; clear st hown hgrow hat)
                            exact ⟨⟨j + 1, _, rfl, by omega, by go_num, HST.out⟩, by simp [intOf]; omega⟩
                          · have hj0' : ¬ (0 : Int) < (j : Int) := by omega
                            replace hon : onB G f k j = false := by rw [hon, decide_eq_false hj0]; rfl
                            have HST : Hid (OwnT 2 wr wA.heap.size uu (ledK G f k ++ ledJ G f k (j + 1)) ∧ (∀ b ∈ blk uu, b ≠ Q) ∧ Five wr Q 72 (.int .i64 mi) (.int .i64 mc) (.int .i64 mf) (.int .i64 mh) (.slice (some ⟨sb, so, none⟩) msl.length sc) ∧ Below wA.heap.size wA wr) := ⟨by rw [HN0.out, hon, if_neg (by simp), List.append_nil]; exact hO, hbk, hT, hB⟩
                            clear hO hbk hT hB HN0 hon
                            go_wp2
                            exact ⟨⟨j + 1, _, rfl, by omega, by go_num, HST.out⟩, by simp [intOf]; omega⟩
                    · have h1' : (e1 == 2) = false := by simpa using h1
                      replace hon : onB G f k j = false := by rw [hon, h1']; rfl
                      have HST : Hid (OwnT 2 wr wA.heap.size uu (ledK G f k ++ ledJ G f k (j + 1)) ∧ (∀ b ∈ blk uu, b ≠ Q) ∧ Five wr Q 72 (.int .i64 mi) (.int .i64 mc) (.int .i64 mf) (.int .i64 mh) (.slice (some ⟨sb, so, none⟩) msl.length sc) ∧ Below wA.heap.size wA wr) := ⟨by rw [HN0.out, hon, if_neg (by simp), List.append_nil]; exact hO, hbk, hT, hB⟩
                      clear hO hbk hT hB HN0 hon
                      go_wp2
                      exact ⟨⟨j + 1, _, rfl, by omega, by go_num, HST.out⟩, by simp [intOf]; omega⟩
                  · have hje : j = msl.length := by omega
                    subst hje
                    have HST : Hid (∀ n, OwnT 2 (wr.drewN n) wA.heap.size uu (ledK G f (k + 1)) ∧ Below wA.heap.size wA (wr.drewN n)) := fun n => by
                      have bd : Below wr.heap.size wr (wr.drewN n) := ⟨rfl, rfl, rfl, Nat.le_refl _, fun _ _ => rfl⟩
                      refine ⟨?_, hB.trans (bd.mono hB.size)⟩
                      show OwnT _ _ _ _ (ledK G f k ++ ledO G f k)
                      unfold ledO
                      rw [hfk, if_pos rfl, HSS.out]
                      exact row_below hO bd
                    have HAS3 : ∀ n, Calls Try.prog 50 #[.slice ya ys.length yc, .int .i64 mi] (wr.drewN n) fun e w' => e = .returned (.bool (decide (mi ∈ ys))) ∧ w' = wr.drewN n := fun n => has_any (own_ints (own_below HO4A.out (HST.out n).2)) hyl mi
                    have hgr : decide (mi ∈ ys) = (mf == 2 && !kb) := by
                      have := grieves HRT.out HF.out HPS.out hkG hfk
                      rw [HFM.out, HID.out, ← HKB.out] at this
                      rw [HYS.out]
                      exact this
                    rw [hgr] at HAS3
                    clear hO hbk hT hB hgr
                    by_cases h2 : mf = 2
                    · subst h2
                      cases kb
                      · replace HAS3 : ∀ n, Calls Try.prog 50 #[.slice ya ys.length yc, .int .i64 mi] (wr.drewN n) fun e w' => e = .returned (.bool true) ∧ w' = wr.drewN n := HAS3
                        go_wp2
                        go_quiet ((go_at_call 50; exact (HAS3 _).mono fun _ _ ⟨he, hm⟩ => ⟨he, _, hm⟩))
                        go_wp2
                        exact ⟨⟨k + 1, _, rfl, by omega, by go_num, HST.out nq⟩, by simp [intOf]; omega⟩
                      · replace HAS3 : ∀ n, Calls Try.prog 50 #[.slice ya ys.length yc, .int .i64 mi] (wr.drewN n) fun e w' => e = .returned (.bool false) ∧ w' = wr.drewN n := HAS3
                        go_wp2
                        go_quiet ((go_at_call 50; exact (HAS3 _).mono fun _ _ ⟨he, hm⟩ => ⟨he, _, hm⟩))
                        go_wp2
                        exact ⟨⟨k + 1, _, rfl, by omega, by go_num, HST.out nq⟩, by simp [intOf]; omega⟩
                    · have h2' : (mf == 2) = false := by simpa using h2
                      rw [h2', Bool.false_and] at HAS3
                      go_wp2
                      go_quiet ((go_at_call 50; exact (HAS3 _).mono fun _ _ ⟨he, hm⟩ => ⟨he, _, hm⟩))
                      go_wp2
                      exact ⟨⟨k + 1, _, rfl, by omega, by go_num, HST.out nq⟩, by simp [intOf]; omega⟩
            · have hke : k = ms.length := by omega
              subst hke
              have hO2 : Own wr wA.heap.size vv (ledK G f G.objs.length) := by
                have := hO
                rw [graphAt_len HLA.out.gat] at this
                exact this
              have hql : (ledK G f G.objs.length).length ≤ 1048576 := by
                have h1 := ledK_len HRT.out f G.objs.length (Nat.le_refl _)
                have h2 := HLN.out
                have h3 := (gOk_len ok).1
                omega
              have HALLR : Hid (∀ x ∈ ledK G f G.objs.length, x ∈ xs) := fun x hx => by
                rw [HXS.out]
                exact led_reached HRT.out HF.out hx
              have HALLL : Hid (∀ x ∈ xs, x ∈ ledK G f G.objs.length) := fun x hx => by
                rw [HXS.out] at hx
                unfold pick at hx
                obtain ⟨p, hp, e⟩ := List.mem_map.1 hx
                rw [← e]
                exact reached_led HRT.out HF.out ((HF.out p).1 (List.mem_filter.1 hp).2)
              generalize ledK G f G.objs.length = qs at *
              have HBF : Hid (Below w.heap.size w wr) := HLA.out.bel.trans (hB.mono HLA.out.bel.size)
              have HQI : Hid (IntsAt wr vv qs) := own_ints hO2
              have HXI : Hid (IntsAt wr (.slice xa xs.length xc) xs) := own_ints (own_below HO3A.out hB)
              obtain ⟨qa, qc, hqe, _, _, _, hqc⟩ := own_ints hO2
              subst hqe
              have HQC : Hid _ := hqc
              have HB7 : Hid _ := hB
              clear hqc hO hO2 hB HO4A HYS HPS hyl
              go_wp2_with fail
              rename World => WL
              go_loopw [13] (fun p wz => ∃ k : Nat, k ≤ qs.length ∧ p = .int .i64 k ∧ wz = WL) (fun p _ => qs.length - (intOf p).toNat)
              case atStart => exact ⟨0, Nat.zero_le _, rfl, rfl⟩
              case round =>
                obtain ⟨k, hk, rfl, hw⟩ := hrel
                subst hw
                by_cases hlt : k < qs.length
                · have hlt' : (k : Int) < (qs.length : Int) := by omega
                  obtain ⟨b, off, rfl, hb, hcc⟩ := HQC.out (by omega)
                  have c0 := hcc k hlt
                  have hget : qs.getD k 0 ∈ qs := by
                    rw [List.getD_eq_getElem?_getD, List.getElem?_eq_getElem hlt]
                    exact List.getElem_mem hlt
                  have HAS4 := has_any HXI.out hxl (qs.getD k 0)
                  rw [decide_eq_true (HALLR.out _ hget)] at HAS4
                  clear hcc hget
                  generalize qs.getD k 0 = y at *
                  go_wp2_with fail
                  refine HAS4.mono ?_
                  rintro e w5 ⟨rfl, rfl⟩
                  clear HAS4
                  go_wp2
                  exact ⟨⟨k + 1, by omega, by go_num, by trivial⟩, by simp [intOf]; omega⟩
                · have hlt' : ¬ (k : Int) < (qs.length : Int) := by omega
                  go_wp2_with fail
                  rename World => WL
                  go_loopw [14] (fun p wz => ∃ k : Nat, k ≤ xs.length ∧ p = .int .i64 k ∧ wz = WL) (fun p _ => xs.length - (intOf p).toNat)
                  case atStart => exact ⟨0, Nat.zero_le _, rfl, rfl⟩
                  case round =>
                    obtain ⟨k, hk, rfl, hw⟩ := hrel
                    subst hw
                    by_cases hlt : k < xs.length
                    · have hlt' : (k : Int) < (xs.length : Int) := by omega
                      obtain ⟨a', c', e', _, _, _, hxc⟩ := HXI.out
                      injection e' with e1 e2 e3
                      subst e1 e3
                      obtain ⟨b, off, rfl, hb, hcc⟩ := hxc (by omega)
                      have c0 := hcc k hlt
                      have hget : xs.getD k 0 ∈ xs := by
                        rw [List.getD_eq_getElem?_getD, List.getElem?_eq_getElem hlt]
                        exact List.getElem_mem hlt
                      have HAS5 := has_any HQI.out hql (xs.getD k 0)
                      rw [decide_eq_true (HALLL.out _ hget)] at HAS5
                      clear hcc hget hxc e2
                      generalize xs.getD k 0 = y at *
                      go_wp2_with fail
                      refine HAS5.mono ?_
                      rintro e w5 ⟨rfl, rfl⟩
                      clear HAS5
                      go_wp2
                      exact ⟨⟨k + 1, by omega, by go_num, by trivial⟩, by simp [intOf]; omega⟩
                    · have hlt' : ¬ (k : Int) < (xs.length : Int) := by omega
                      go_wp2
                      go_ret
                      exact ⟨rfl, HBF.out⟩
end Go.Proofs.Ytdogibjgogcdkab.gr
