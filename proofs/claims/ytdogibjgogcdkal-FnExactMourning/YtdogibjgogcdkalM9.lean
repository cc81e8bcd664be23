/-
  Chapter 7 as the specification has it: l7Reached and Reached. Chapter 7 as the specification has it: Reached. The walk of the law FnExactGrieving, given what the program's and the specification's Grieving answer (a list of numbers). slices.SortFunc over numbers, laid over the program: which function and type of the library's own text is which one here. Chapter 7 as the program has it: how two that grieve are held against each other. A region that draws its order, by an invariant of what has come up, of the frame and of the world: each operation that may come up keeps it, in whatever order; no branching.
-/
import Derived.Test.YtdogibjgogcdkalM8
import Derived.Test.YtdogibjgogcdkalM7
import Derived.Laws.AppendOwnNone
import Derived.Test.YtdogibjgogcdkalM4
import Derived.Test.YtdogibjgogcdkalM3
import Derived.Test.YtdogibjgogcdkalRows
import Derived.WalkKit
import Derived.Shelf.SlSortCmp.NoneTotal
import Derived.Test.YtdogibjgogcdkalProg
import Derived.Orders
import Derived.Deep.Quiet
namespace Go.Proofs.Ytdogibjgogcdkal.gr
open Go.RowKit rows heads
set_option maxRecDepth 100000
set_option linter.unusedVariables false

/-- append of refs onto a row of the call's own, whatever the other list, as one step of a region that draws. -/
theorem step_appR {ops : Array Oper} {o : Oper} {a : Act} {w : World} {K : Act → World → Prop} {Q : Exit → Act → World → Prop} {E : Prop} (hgd : o.guard = none) (s x : Operand)
    (ho : o.op = .call { callee := .builtin .append, args := #[s, x], argTypes := #[30, 30] })
    (base : Nat) (v : Value) (es : List Rf) (hs : a.eval s = v) (hown : OwnR w base v es) (av : Option Addr) (nv cv : Nat) (fs : List Rf) (hx : a.eval x = .slice av nv cv) (hR : RefsAt w (.slice av nv cv) fs)
    (hb : es.length + fs.length ≤ 1048576) (hbase : base ≤ w.heap.size)
    (h : ∀ v' w', OwnR w' base v' (es ++ fs) → Ch (blk v) w w' → (∀ k ∈ blk v', k ∈ blk v ∨ w.heap.size ≤ k) → K (a.put o.dst v') w') :
    if Region.wanted o (yielded ops a.tmps) = true then Oper.wp Try.prog o a w K Q else E := by
  obtain ⟨i0, hi, hz0, hz1, hz2⟩ := info_parts infoR
  obtain ⟨hn, hnone⟩ := refs_len hR
  cases av with
  | none =>
    have e0 := hnone rfl
    obtain ⟨a', c', e', _, _, h3, _⟩ := id hR
    injection e' with e1 e2 e3
    subst e1 e3
    have ec := h3 rfl
    have ef : fs = [] := List.eq_nil_of_length_eq_zero (by omega)
    subst ec ef e0
    have hw : Region.wanted o (yielded ops a.tmps) = true := by simp [Region.wanted, hgd]
    rw [if_pos hw]
    have hrun := run_append_owned_none (P := Try.prog) (w := w) base 30 o.type 80 i0 2 Try.underlying30 hi v es.length (cellsR es) hown
    have hk := h v w (by rw [List.append_nil]; exact hown) (Ch.refl _ _) (fun k hk => .inl hk)
    unfold Oper.wp
    simp [execOp, ho, resolve, invoke, builtin, hs, hx, hrun, Result.andThen]
    exact hk
  | some ad =>
    subst hn
    refine step_app_at hgd s x 30 ho base 80 i0 (.agg #[.int .i64 0, .int .i64 0]) 2 16 Try.underlying30 hi hz0 hz1 hz2 rfl (by decide) v es.length (cellsR es) hs hown ad fs.length cv (cellsR fs) hx (cellsR_length _) (refs_news hR) (cellsR_one _) (by unfold maxLen; omega) (by omega) hbase ?_
    intro v' w' hrow hg hat
    refine h v' w' (by unfold OwnR; rw [List.length_append, cellsR_append]; exact hrow) (ch_grown hg) fun k hk => ?_
    unfold blk at hk ⊢
    rcases hat with e | e
    · rw [e] at hk; exact .inl hk
    · rw [e] at hk; simp at hk; exact .inr (by omega)
theorem step_app0 {ops : Array Oper} {o : Oper} {act : Act} {w : World} {K : Act → World → Prop} {Q : Exit → Act → World → Prop} {E : Prop} {g : Nat} {a : Option Addr} {n cap : Nat} {es : List Rf}
    (h : RefsAt w (.slice a n cap) es) (hl : n ≤ 1048576) (hg : w.heap[g]? = some (.cells #[] 80 (0, 0))) (hgd : o.guard = none) (s x : Operand) (ho : o.op = .call { callee := .builtin .append, args := #[s, x], argTypes := #[30, 30] })
    (hs : act.eval s = .slice (some ⟨g, 0, none⟩) 0 0) (hx : act.eval x = .slice a n cap)
    (k : ∀ q c w', (q = g ∨ w.heap.size ≤ q) → (∀ base, base ≤ q → OwnR w' base (.slice (some ⟨q, 0, none⟩) n c) es) → Below w.heap.size w w' → K (act.put o.dst (.slice (some ⟨q, 0, none⟩) n c)) w') :
    if Region.wanted o (yielded ops act.tmps) = true then Oper.wp Try.prog o act w K Q else E := by
  have hw : Region.wanted o (yielded ops act.tmps) = true := by simp [Region.wanted, hgd]
  rw [if_pos hw]
  obtain ⟨q, c, w', hr, h1, h2, h3⟩ := run_app0 h hl hg o.type
  unfold Oper.wp
  simp [execOp, ho, resolve, invoke, builtin, hs, hx, hr, Result.andThen]
  exact k q c w' h1 h2 h3
theorem at_newS {X : World} {o : Obj} {k : Nat} (h : k = X.heap.size) : (X.alloc o).heap[k]? = some o := by subst h; exact heap_alloc_new _ _
theorem ints_sl {w : World} {v : Value} {xs : List Int} (h : IntsAt w v xs) : ∃ a n c, v = .slice a n c := by
  obtain ⟨a, c, e, _⟩ := h
  exact ⟨a, _, c, e⟩
/-- How long a slice is. -/
def slen : Value → Nat
  | .slice _ n _ => n
  | _ => 0

set_option maxHeartbeats 16000000 in
theorem l7Reached_any {w : World} {o r m : Value} {ms : List MO} {G : Gr} (h : GraphAt w o r m ms G) (hok : gOk G = true) {zs : List Int} (hz : IsR G zs) :
    Calls Try.prog 30 #[gv o r m G.next G.seed] w fun e w' => ∃ v, e = .returned v ∧ Own w' w.heap.size v zs ∧ Below w.heap.size w w' := by
  obtain ⟨a1, n1, c1, a2, n2, c2, a3, n3, c3, e1, e2, e3⟩ := graphAt_slices h
  subst e1 e2 e3
  have hlen := graphAt_len h
  obtain ⟨h200, h6, h40, hN1, hN2, _⟩ := gOk_len hok
  obtain ⟨hn2, _⟩ := refs_len h.2.2.1
  obtain ⟨hn3, _⟩ := refs_len h.2.2.2
  have B1 : Below w.heap.size w ((w.alloc (gb (.slice a1 n1 c1) (.slice a2 n2 c2) (.slice a3 n3 c3) G.next G.seed)).alloc (.cells #[] 2)) := ((Below.refl _ w).alloc (Nat.le_refl _) _).alloc (by simp) _
  have T1 : Five ((w.alloc (gb (.slice a1 n1 c1) (.slice a2 n2 c2) (.slice a3 n3 c3) G.next G.seed)).alloc (.cells #[] 2)) w.heap.size 32 (.slice a1 n1 c1) (.slice a2 n2 c2) (.slice a3 n3 c3) (.int .i64 G.next) (.int .i64 G.seed) := five_below (five_new w _ _ _ _ _ _) ((Below.refl _ _).alloc (Nat.le_refl _) _)
  have O1 : Own ((w.alloc (gb (.slice a1 n1 c1) (.slice a2 n2 c2) (.slice a3 n3 c3) G.next G.seed)).alloc (.cells #[] 2)) w.heap.size (.slice (some ⟨w.heap.size + 1, 0, none⟩) 0 0) [] := by
    refine ⟨rfl, .inr ⟨w.heap.size + 1, 0, #[], rfl, by omega, ?_, Nat.le_refl _, by decide, rfl, rfl⟩⟩
    exact at_newS (by simp)
  have HG : Hid _ := h
  have HOK : Hid _ := hok
  have HZ : Hid _ := hz
  have HO1 : Hid _ := O1
  have HB1 : Hid _ := B1
  have HT1 : Hid _ := T1
  have sX : w.heap.size + 2 = ((w.alloc (gb (.slice a1 n1 c1) (.slice a2 n2 c2) (.slice a3 n3 c3) G.next G.seed)).alloc (.cells #[] 2)).heap.size := by simp
  clear h hok hz O1 B1 T1
  generalize hgn : G.next = gn at *
  generalize hgs : G.seed = gs at *
  go_enter Try.func30, Try.ntmps30
  go_wp2_with fail
  generalize hX : ((w.alloc (gb (.slice a1 n1 c1) (.slice a2 n2 c2) (.slice a3 n3 c3) gn gs)).alloc (.cells #[] 2)) = X1 at *
  clear hX
  have NL : Below X1.heap.size X1 (X1.alloc (.cells #[] 80)).drew := ((Below.refl _ _).alloc (Nat.le_refl _) _).drew
  obtain ⟨z0, z1, z2, z3, z4, _⟩ := five_cells HT1.out
  obtain ⟨y0, y1, y2, y3, y4, _⟩ := five_cells (five_below HT1.out ((Below.refl _ X1).alloc (Nat.le_refl _) (.cells #[] 80)))
  have HLIT : Hid ((X1.alloc (.cells #[] 80)).drew.heap[X1.heap.size]? = some (.cells #[] 80 (0, 0))) := heap_alloc_new X1 _
  have HRO : Hid (RefsAt (X1.alloc (.cells #[] 80)).drew (.slice a2 n2 c2) G.roots) := refsAt_below HG.out.2.2.1 (HB1.out.trans (NL.mono HB1.out.size))
  have HNL : Hid _ := NL
  clear NL
  go_cut [4] from 12 to 18 (fun v wx => ∃ av nv cv, v = .slice av nv cv ∧ Hid (RefsAt wx (.slice av nv cv) (G.roots ++ G.mourned)) ∧ Hid (Below X1.heap.size X1 wx))
  case first =>
    go_region_law (first
      | (refine step_app0 HRO.out (by omega) HLIT.out rfl (.tmp 12) (.tmp 14) rfl rfl rfl ?_
         intro q c w3 hq hO hb
         have B3 := HNL.out.trans (hb.mono HNL.out.size)
         have hqs : X1.heap.size ≤ q := (by rcases hq with e | e; omega; exact Nat.le_trans HNL.out.size e)
         have OW3 := hO X1.heap.size hqs
         have HM3 : Hid _ := refsAt_below HG.out.2.2.2 (HB1.out.trans (B3.mono HB1.out.size))
         obtain ⟨x0, x1, x2, x3, x4, _⟩ := five_cells (five_below HT1.out B3)
         have HB3 : Hid _ := B3
         have HOW3 : Hid _ := OW3
         have hs3 := B3.size
         clear hq hO hb B3 OW3 hqs)
      | (refine step_appR rfl (.tmp 15) (.tmp 17) rfl X1.heap.size _ G.roots rfl HOW3.out a3 n3 c3 G.mourned rfl HM3.out (by omega) hs3 ?_
         intro v' w4 hO4 hc4 hk4
         obtain ⟨av, nv, cv, rfl⟩ := refs_slice (ownR_refs hO4)
         have HR4 : Hid _ := ownR_refs hO4
         have HB4 : Hid (Below X1.heap.size X1 w4) := HB3.out.trans (below_ch hc4 hs3 (fun k hk => (blk_lt HOW3.out k hk).1))
         clear hO4 hc4 hk4))
    all_goals go_wp2
    all_goals go_meet
    all_goals exact ⟨av, nv, cv, rfl, HR4, HB4⟩
  obtain ⟨av, nv, cv, rfl, HALL, HBX⟩ := hcut
  obtain ⟨X2, hX2⟩ : ∃ X2, X2 = wc := ⟨_, rfl⟩
  subst hX2
  clear z0 z1 z2 z3 z4 y0 y1 y2 y3 y4 HLIT HRO HNL
  obtain ⟨hnv, _⟩ := refs_len HALL.out
  have hLL : (G.roots ++ G.mourned).length ≤ 46 := by rw [List.length_append]; omega
  have HMEM : Hid (∀ r ∈ G.roots ++ G.mourned, r.1 = 2 → ∃ p, Rch G p ∧ (G.objs.getD p obD).id = r.2) := fun r hr h2 => ⟨_, Rch.root r hr (right_ref HOK.out (.inl hr) h2).1, (right_ref HOK.out (.inl hr) h2).2⟩
  have HO2 : Hid (Own X2 w.heap.size (.slice (some ⟨w.heap.size + 1, 0, none⟩) 0 0) []) := own_below HO1.out HBX.out
  have HB2 : Hid (Below w.heap.size w X2) := HB1.out.trans (HBX.out.mono HB1.out.size)
  have HT2 : Hid _ := five_below HT1.out HBX.out
  have sz2 := HB2.out.size
  clear HO1 HB1 HT1 HBX sX
  subst hnv
  generalize hL : G.roots ++ G.mourned = L at *
  obtain ⟨ao, co, eo, _⟩ := HG.out.2.1.1
  injection eo with e1 e2 e3
  subst e1 e2 e3
  have HGL : Hid (∀ xs, Good G xs → xs.length ≤ 100000) := fun xs hx => good_len HOK.out hx
  have HLEN : Hid _ := hlen
  have hms : ms.length ≤ 200 := by omega
  have HLL : Hid _ := hL
  clear hlen hn2 hn3 h6 h40 hL h200 hgn hgs
  go_wp2_with fail
  go_loopw [3, 5] (fun v p wr => ∃ (k : Nat) (vv : Value) (xs : List Int), vv = v ∧ k ≤ L.length ∧ p = .int .i64 k ∧ Own wr w.heap.size vv xs ∧ Good G xs ∧ goesI xs (L.take k) ∧ Below X2.heap.size X2 wr) (fun _ p _ => L.length - (intOf p).toNat)
  case atStart => exact ⟨0, _, [], rfl, Nat.zero_le _, rfl, HO2.out, good_nil G, fun r hr => absurd hr (by simp), Below.refl _ _⟩
  case round =>
    obtain ⟨k, vv, xs, rfl, hk, rfl, hO, hgood, hgo, hB⟩ := hrel
    by_cases hlt : k < L.length
    · obtain ⟨a', cap', e, _, _, _, hc⟩ := refsAt_below HALL.out hB
      injection e with e1 e2 e3
      subst e1 e3
      obtain ⟨b, off, rfl, hb, hcc⟩ := hc (by omega)
      obtain ⟨y0, y1⟩ := hcc k hlt
      have htk := take_next hlt
      have hme : L.getD k refD ∈ L := by rw [List.getD_eq_getElem?_getD, List.getElem?_eq_getElem hlt]; exact List.getElem_mem hlt
      clear hc hcc e2
      generalize L.getD k refD = e0 at *
      obtain ⟨ek, en⟩ := e0
      simp only at y0 y1
      have HO : Hid _ := hO
      have HGD : Hid _ := hgood
      have HGO : Hid _ := hgo
      have HB : Hid _ := hB
      by_cases he : ek = 2
      · subst he
        have hgl := HGL.out xs hgood
        have sB := hB.size
        have PT := l1Put_any hO (by omega) (by omega) en
        have HGP : Hid (Good G (putI en xs)) := by
          obtain ⟨p, hp, e⟩ := HMEM.out _ hme rfl
          exact good_put hgood hp e
        have HGG : Hid (goesI (putI en xs) (L.take (k + 1))) := fun r hr h2 => by
          rw [htk] at hr
          rcases List.mem_append.1 hr with e | e
          · exact mem_putI.2 (.inr (hgo r e h2))
          · rw [List.mem_singleton.1 e]; exact mem_putI.2 (.inl rfl)
        obtain ⟨va, vn, vc, hvv⟩ := ints_sl (own_ints hO)
        subst hvv
        clear hO hgood hgo hB htk hme hgl
        go_wp2_with (go_at_call 61; refine PT.mono ?_; clear PT; rintro e w4 ⟨v4, rfl, o4, b4⟩; obtain ⟨va4, vn4, vc4, rfl⟩ := ints_sl (own_ints o4); have HO4 : Hid _ := o4; have HB4 : Hid _ := HB.out.trans (b4.mono sB); clear o4 b4)
        exact ⟨⟨k + 1, _, _, rfl, by omega, by go_num, HO4.out, HGP.out, HGG.out, HB4.out⟩, by simp [intOf]; omega⟩
      · have he' : (ek == 2) = false := by simpa using he
        have HGG : Hid (goesI xs (L.take (k + 1))) := fun r hr h2 => by
          rw [htk] at hr
          rcases List.mem_append.1 hr with e | e
          · exact hgo r e h2
          · rw [List.mem_singleton.1 e] at h2; exact absurd h2 he
        clear hO hgood hgo hB htk hme he
        go_wp2
        exact ⟨⟨k + 1, vv, xs, rfl, by omega, by go_num, HO.out, HGD.out, HGG.out, HB.out⟩, by simp [intOf]; omega⟩
    · have e : k = L.length := by omega
      subst e
      rw [List.take_length] at hgo
      have HO : Hid _ := hO
      have HGD : Hid _ := hgood
      have HGO : Hid _ := hgo
      have HB : Hid _ := hB
      obtain ⟨va, vn, vc, hvv⟩ := ints_sl (own_ints hO)
      subst hvv
      clear hO hgood hgo hB
      go_wp2_with fail
      go_loopw [3] (fun v wr => ∃ (vv : Value) (xs : List Int), vv = v ∧ Own wr w.heap.size vv xs ∧ Good G xs ∧ goesI xs L ∧ Below X2.heap.size X2 wr) (fun v _ => 100001 - slen v)
      case atStart => exact ⟨_, xs, rfl, HO.out, HGD.out, HGO.out, HB.out⟩
      case round =>
        clear HO HGD HGO HB
        obtain ⟨vv, xs, rfl, hO, hgood, hgo, hB⟩ := hrel
        have hgl := HGL.out xs hgood
        obtain ⟨va, vc, hvv⟩ : ∃ a c, vv = .slice a xs.length c := by
          obtain ⟨a, c, e, _⟩ := own_ints hO
          exact ⟨a, c, e⟩
        subst hvv
        have HO : Hid _ := hO
        have HGD : Hid _ := hgood
        have HGO : Hid _ := hgo
        have HB : Hid _ := hB
        clear hO hgood hgo hB
        go_wp2_with fail
        go_loopw [3, 7] (fun v p wr => ∃ (k : Nat) (vv : Value) (ys : List Int), vv = v ∧ k ≤ ms.length ∧ p = .int .i64 k ∧ Own wr w.heap.size vv ys ∧ Good G ys ∧ goesI ys L ∧ xs.length ≤ ys.length ∧ (ys.length = xs.length → ys = xs ∧ ∀ j, j < k → DoneI G xs j) ∧ Below X2.heap.size X2 wr) (fun _ p _ => ms.length - (intOf p).toNat)
        case atStart => exact ⟨0, _, xs, rfl, Nat.zero_le _, rfl, HO.out, HGD.out, HGO.out, Nat.le_refl _, fun _ => ⟨rfl, fun j hj => by omega⟩, HB.out⟩
        case round =>
          clear HO HGO HB
          obtain ⟨k, vv, ys, rfl, hk, rfl, hO, hgood, hgo, hle, hsame, hB⟩ := hrel
          have hgl2 := HGL.out ys hgood
          obtain ⟨va2, vc2, hvv⟩ : ∃ a c, vv = .slice a ys.length c := by
            obtain ⟨a, c, e, _⟩ := own_ints hO
            exact ⟨a, c, e⟩
          subst hvv
          obtain ⟨q0, _⟩ := five_cells (five_below HT2.out hB)
          have HO : Hid _ := hO
          have HGY : Hid _ := hgood
          have HGO : Hid _ := hgo
          have HSM : Hid _ := hsame
          have HB : Hid _ := hB
          by_cases hlt : k < ms.length
          · obtain ⟨ao, co, eo, _, _, _, hco⟩ := orowAt_below HG.out.2.1.1 (HB2.out.trans (hB.mono sz2))
            injection eo with e1 e2 e3
            subst e1 e3
            obtain ⟨b1, off1, rfl, hb1, hcc1⟩ := hco (by omega)
            obtain ⟨x0, x1, x2, x3, x4⟩ := hcc1 k hlt
            have hmo : (ms.getD k moD).abs = G.objs.getD k obD := graphAt_get HG.out k
            have hsv := refsAt_below (HG.out.2.1.2 _ (mem_getD hlt)) (HB2.out.trans (hB.mono sz2))
            obtain ⟨sa, sc, hsl, _⟩ := id hsv
            have hkG : k < G.objs.length := by rw [← HLEN.out]; exact hlt
            have hs20 : (ms.getD k moD).slots.length ≤ 20 := by
              have := (right_obj HOK.out hkG).2.1
              rw [← hmo] at this
              exact this
            have HFK : Hid (∀ ys, Good G ys → (ms.getD k moD).id ∈ ys → ∀ F, FromOk (ms.getD k moD).abs ys F → F ≤ (ms.getD k moD).slots.length ∧ (∀ r ∈ (ms.getD k moD).slots.drop F, r.1 = 2 → ∃ p, Rch G p ∧ (G.objs.getD p obD).id = r.2) ∧ (goesI ys ((ms.getD k moD).slots.drop F) → DoneI G ys k)) := fun ys hg hin F hF => by
              have hin' : (G.objs.getD k obD).id ∈ ys := by rw [← hmo]; exact hin
              have hF' : FromOk (G.objs.getD k obD) ys F := by rw [← hmo]; exact hF
              have := from_ok HOK.out hkG hg hin' hF'
              rw [← hmo] at this
              exact this
            have HKEY : Hid ((ms.getD k moD).fmt = 2 → 0 < (ms.getD k moD).slots.length) := fun e => by
              have h1 := (right_key HOK.out hkG (by rw [← hmo]; exact e)).1
              rw [← hmo] at h1
              exact h1
            have HFMT : Hid ((ms.getD k moD).fmt = 0 ∨ (ms.getD k moD).fmt = 1 ∨ (ms.getD k moD).fmt = 2) := by
              obtain ⟨_, _, h2, h3⟩ := obOk_lt ((right_of HOK.out).ob k hkG)
              have h4 := hok_true h3
              have e : (ms.getD k moD).fmt = (G.objs.getD k obD).fmt := by rw [← hmo]; rfl
              show _ ∨ _ ∨ _
              omega
            have HNO : Hid ((ms.getD k moD).id ∉ ys → DoneI G ys k) := fun hno hin => absurd (by rw [← hmo] at hin; exact hin) hno
            clear hmo hco hcc1
            generalize ms.getD k moD = mo at *
            obtain ⟨mi, mc, mf, mh, msv, msl⟩ := mo
            simp only at x0 x1 x2 x3 x4 hsl hsv hs20 HFK HKEY HFMT HNO
            subst hsl
            have BY : Below wr.heap.size wr (wr.alloc (ob ⟨mi, mc, mf, mh, .slice sa msl.length sc, msl⟩)) := (Below.refl _ _).alloc (Nat.le_refl _) _
            have TY := five_new wr 51 (.int .i64 mi) (.int .i64 mc) (.int .i64 mf) (.int .i64 mh) (.slice sa msl.length sc)
            have OY := own_below hO BY
            have HS := l1Has_any (own_ints OY) (by omega) mi
            have HBY : Hid _ := hB.trans (BY.mono hB.size)
            have HTY : Hid _ := TY
            have HOY : Hid _ := OY
            have HSVY : Hid _ := refsAt_below hsv BY
            clear hO hgood hgo hsame hB hsv BY TY OY e2
            go_wp2_with fail
            generalize hYY : (wr.alloc (ob ⟨mi, mc, mf, mh, .slice sa msl.length sc, msl⟩)) = Y at *
            generalize hPP : wr.heap.size = P8 at *
            clear hYY
            refine HS.mono ?_
            rintro e w4 ⟨rfl, hw4⟩
            rw [hw4]
            clear HS hw4 q0 x0 x1 x2 x3 x4
            by_cases hin : mi ∈ ys
            · rw [decide_eq_true hin]
              obtain ⟨t0, t1, t2, t3, t4, _⟩ := five_cells HTY.out
              rcases HFMT.out with hf | hf | hf
              · subst hf
                obtain ⟨hFl, hsf, hdf⟩ := HFK.out ys HGY.out hin 0 (.inr (.inl ⟨rfl, rfl⟩))
                have HSF : Hid _ := hsf
                have HDF : Hid _ := hdf
                clear hsf hdf HFK HKEY HFMT HNO
                go_wp2_with fail
                go_loopw [3, 10] (fun v p wr => ∃ (i : Nat) (vv : Value) (us : List Int), vv = v ∧ i ≤ msl.length ∧ 0 ≤ i ∧ p = .int .i64 i ∧ Own wr w.heap.size vv us ∧ Good G us ∧ goesI us L ∧ ys.length ≤ us.length ∧ (us.length = ys.length → us = ys ∧ ∀ j, 0 ≤ j → j < i → (msl.getD j refD).1 = 2 → (msl.getD j refD).2 ∈ ys) ∧ Below X2.heap.size X2 wr ∧ Below Y.heap.size Y wr) (fun _ p _ => msl.length - (intOf p).toNat)
                case atStart => exact ⟨0, _, ys, rfl, hFl, Nat.le_refl _, by go_num, HOY.out, HGY.out, HGO.out, Nat.le_refl _, fun _ => ⟨rfl, fun j h1 h2 => absurd h2 (by omega)⟩, HBY.out, Below.refl _ _⟩
                case round =>
                  obtain ⟨i, vv, us, rfl, hi, hFi, rfl, hO, hgood, hgo, hle2, hsm2, hB, hBY⟩ := hrel
                  have hgl3 := HGL.out us hgood
                  obtain ⟨va3, vc3, hvv⟩ : ∃ a c, vv = .slice a us.length c := by
                    obtain ⟨a, c, e, _⟩ := own_ints hO
                    exact ⟨a, c, e⟩
                  subst hvv
                  obtain ⟨_, _, _, _, t4, _⟩ := five_cells (five_below HTY.out hBY)
                  have HO4 : Hid _ := hO
                  have HG4 : Hid _ := hgood
                  have HGO4 : Hid _ := hgo
                  have HSM4 : Hid _ := hsm2
                  have HB4 : Hid _ := hB
                  have HBY4 : Hid _ := hBY
                  by_cases hlt4 : i < msl.length
                  · obtain ⟨a', cap', e, _, _, _, hc⟩ := refsAt_below HSVY.out hBY
                    injection e with e1 e2 e3
                    subst e1 e3
                    obtain ⟨b4, off4, e4, hb4, hcc4⟩ := hc (by omega)
                    subst e4
                    obtain ⟨y0, y1⟩ := hcc4 i hlt4
                    have hme : msl.getD i refD ∈ msl.drop 0 := by
                      rw [List.getD_eq_getElem?_getD, List.getElem?_eq_getElem hlt4]
                      exact List.mem_iff_getElem.2 ⟨i - 0, by rw [List.length_drop]; omega, by rw [List.getElem_drop]; exact getElem_congr_idx (by omega)⟩
                    have hput := HSF.out _ hme
                    have HNXN : Hid (¬ (msl.getD i refD).1 = 2 → us.length = ys.length → us = ys ∧ ∀ j, 0 ≤ j → j < i + 1 → (msl.getD j refD).1 = 2 → (msl.getD j refD).2 ∈ ys) := fun hn e => by
                      obtain ⟨e1, h1⟩ := HSM4.out e
                      refine ⟨e1, fun j h2 h3 h4 => ?_⟩
                      by_cases ej : j = i
                      · rw [ej] at h4; exact absurd h4 hn
                      · exact h1 j h2 (by omega) h4
                    have HNXY : Hid ((putI (msl.getD i refD).2 us).length = ys.length → putI (msl.getD i refD).2 us = ys ∧ ∀ j, 0 ≤ j → j < i + 1 → (msl.getD j refD).1 = 2 → (msl.getD j refD).2 ∈ ys) := fun e => by
                      have hl := @len_putI (msl.getD i refD).2 us
                      have eu : us.length = ys.length := by omega
                      obtain ⟨e1, h1⟩ := HSM4.out eu
                      have e2 := hl.2.2 (by omega)
                      refine ⟨e2.trans e1, fun j h2 h3 h4 => ?_⟩
                      by_cases ej : j = i
                      · have : (msl.getD i refD).2 ∈ putI (msl.getD i refD).2 us := mem_putI.2 (.inl rfl)
                        rw [e2, e1] at this
                        rw [ej]
                        exact this
                      · exact h1 j h2 (by omega) h4
                    clear hc hcc4 e2 hme
                    generalize msl.getD i refD = e0 at *
                    obtain ⟨ek, en⟩ := e0
                    simp only at y0 y1 hput HNXN HNXY
                    by_cases he : ek = 2
                    · subst he
                      have sB := hB.size
                      have sBY := hBY.size
                      have PT := l1Put_any hO (by omega) (by omega) en
                      have HGP : Hid (Good G (putI en us)) := by
                        obtain ⟨p, hp, e⟩ := hput rfl
                        exact good_put hgood hp e
                      have HGG : Hid (goesI (putI en us) L) := goesI_mono hgo (fun a ha => mem_putI.2 (.inr ha))
                      have HLE : Hid (ys.length ≤ (putI en us).length) := Nat.le_trans hle2 (@len_putI en us).1
                      clear hO hgood hgo hsm2 hB hBY hput HNXN
                      go_wp2_with (go_at_call 61; refine PT.mono ?_; clear PT; rintro e w5 ⟨v5, rfl, o5, b5⟩; obtain ⟨va5, vn5, vc5, rfl⟩ := ints_sl (own_ints o5); have HO5 : Hid _ := o5; have HB5 : Hid _ := HB4.out.trans (b5.mono sB); have HBY5 : Hid _ := HBY4.out.trans (b5.mono sBY); clear o5 b5)
                      exact ⟨⟨i + 1, _, _, rfl, by omega, by omega, by go_num, HO5.out, HGP.out, HGG.out, HLE.out, HNXY.out, HB5.out, HBY5.out⟩, by simp [intOf]; omega⟩
                    · have he' : (ek == 2) = false := by simpa using he
                      have HNX2 : Hid _ := HNXN.out he
                      clear hO hgood hgo hsm2 hB hBY hput HNXN HNXY he
                      go_wp2
                      exact ⟨⟨i + 1, _, us, rfl, by omega, by omega, by go_num, HO4.out, HG4.out, HGO4.out, hle2, HNX2.out, HB4.out, HBY4.out⟩, by simp [intOf]; omega⟩
                  · have e : i = msl.length := by omega
                    subst e
                    have HX : Hid (us.length = xs.length → us = xs ∧ ∀ j, j < k + 1 → DoneI G xs j) := fun e => by
                      obtain ⟨e1, h1⟩ := HSM4.out (by omega)
                      obtain ⟨e2, h2⟩ := HSM.out (by omega)
                      refine ⟨e1.trans e2, fun j hj => ?_⟩
                      by_cases ej : j = k
                      · rw [ej, ← e2]
                        refine HDF.out fun r hr h3 => ?_
                        obtain ⟨n', hn', rfl⟩ := List.getElem_of_mem hr
                        rw [List.length_drop] at hn'
                        rw [List.getElem_drop] at h3 ⊢
                        have hq := h1 (0 + n') (by omega) (by omega)
                        rw [List.getD_eq_getElem?_getD, List.getElem?_eq_getElem (by omega)] at hq
                        exact hq h3
                      · exact h2 j (by omega)
                    clear hO hgood hgo hsm2 hB hBY
                    go_wp2
                    exact ⟨⟨k + 1, _, us, rfl, by omega, by go_num, HO4.out, HG4.out, HGO4.out, by omega, HX.out, HB4.out⟩, by simp [intOf]; omega⟩
              · subst hf
                obtain ⟨hFl, hsf, hdf⟩ := HFK.out ys HGY.out hin msl.length (.inl ⟨rfl, rfl⟩)
                have HSF : Hid _ := hsf
                have HDF : Hid _ := hdf
                clear hsf hdf HFK HKEY HFMT HNO
                go_wp2_with fail
                go_loopw [3, 10] (fun v p wr => ∃ (i : Nat) (vv : Value) (us : List Int), vv = v ∧ i ≤ msl.length ∧ msl.length ≤ i ∧ p = .int .i64 i ∧ Own wr w.heap.size vv us ∧ Good G us ∧ goesI us L ∧ ys.length ≤ us.length ∧ (us.length = ys.length → us = ys ∧ ∀ j, msl.length ≤ j → j < i → (msl.getD j refD).1 = 2 → (msl.getD j refD).2 ∈ ys) ∧ Below X2.heap.size X2 wr ∧ Below Y.heap.size Y wr) (fun _ p _ => msl.length - (intOf p).toNat)
                case atStart => exact ⟨msl.length, _, ys, rfl, hFl, Nat.le_refl _, by go_num, HOY.out, HGY.out, HGO.out, Nat.le_refl _, fun _ => ⟨rfl, fun j h1 h2 => absurd h2 (by omega)⟩, HBY.out, Below.refl _ _⟩
                case round =>
                  obtain ⟨i, vv, us, rfl, hi, hFi, rfl, hO, hgood, hgo, hle2, hsm2, hB, hBY⟩ := hrel
                  have hgl3 := HGL.out us hgood
                  obtain ⟨va3, vc3, hvv⟩ : ∃ a c, vv = .slice a us.length c := by
                    obtain ⟨a, c, e, _⟩ := own_ints hO
                    exact ⟨a, c, e⟩
                  subst hvv
                  obtain ⟨_, _, _, _, t4, _⟩ := five_cells (five_below HTY.out hBY)
                  have HO4 : Hid _ := hO
                  have HG4 : Hid _ := hgood
                  have HGO4 : Hid _ := hgo
                  have HSM4 : Hid _ := hsm2
                  have HB4 : Hid _ := hB
                  have HBY4 : Hid _ := hBY
                  by_cases hlt4 : i < msl.length
                  · exact absurd hlt4 (by omega)
                  · have e : i = msl.length := by omega
                    subst e
                    have HX : Hid (us.length = xs.length → us = xs ∧ ∀ j, j < k + 1 → DoneI G xs j) := fun e => by
                      obtain ⟨e1, h1⟩ := HSM4.out (by omega)
                      obtain ⟨e2, h2⟩ := HSM.out (by omega)
                      refine ⟨e1.trans e2, fun j hj => ?_⟩
                      by_cases ej : j = k
                      · rw [ej, ← e2]
                        refine HDF.out fun r hr h3 => ?_
                        obtain ⟨n', hn', rfl⟩ := List.getElem_of_mem hr
                        rw [List.length_drop] at hn'
                        rw [List.getElem_drop] at h3 ⊢
                        have hq := h1 (msl.length + n') (by omega) (by omega)
                        rw [List.getD_eq_getElem?_getD, List.getElem?_eq_getElem (by omega)] at hq
                        exact hq h3
                      · exact h2 j (by omega)
                    clear hO hgood hgo hsm2 hB hBY
                    go_wp2
                    exact ⟨⟨k + 1, _, us, rfl, by omega, by go_num, HO4.out, HG4.out, HGO4.out, by omega, HX.out, HB4.out⟩, by simp [intOf]; omega⟩
              · subst hf
                have h0 := HKEY.out rfl
                obtain ⟨a', cap', e, _, _, _, hc⟩ := id HSVY.out
                injection e with e1 e2 e3
                subst e1 e3
                obtain ⟨b0, off0, rfl, hb0, hcc0⟩ := hc h0
                obtain ⟨r0, r1⟩ := hcc0 0 h0
                rw [show off0 + 0 * 2 = off0 by omega] at r0 r1
                clear hc hcc0 e2
                have HK0 : Hid (msl.getD 0 refD = msl.getD 0 refD) := rfl
                obtain ⟨e0, he0⟩ : ∃ e0, msl.getD 0 refD = e0 := ⟨_, rfl⟩
                rw [he0] at r0 r1
                obtain ⟨k0, n0⟩ := e0
                simp only at r0 r1
                have h1n : (1 : Nat) ≤ msl.length := h0
                have HS0 := l1Has_any (own_ints HOY.out) (by omega) n0
                by_cases hk2 : k0 = 2
                · subst hk2
                  by_cases hn0 : n0 ∈ ys
                  · rw [decide_eq_true hn0] at HS0
                    obtain ⟨hFl, hsf, hdf⟩ := HFK.out ys HGY.out hin 1 (.inr (.inr (.inl ⟨rfl, rfl, fun h => h.2 (by show (msl.getD 0 refD).2 ∈ ys; rw [he0]; exact hn0)⟩)))
                    have HSF : Hid _ := hsf
                    have HDF : Hid _ := hdf
                    clear hsf hdf HFK HKEY HFMT HNO
                    go_wp2_with (go_at_call 62; refine HS0.mono ?_; clear HS0; rintro e w5 ⟨rfl, hw5⟩; rw [hw5]; clear hw5)
                    go_loopw [3, 10] (fun v p wr => ∃ (i : Nat) (vv : Value) (us : List Int), vv = v ∧ i ≤ msl.length ∧ 1 ≤ i ∧ p = .int .i64 i ∧ Own wr w.heap.size vv us ∧ Good G us ∧ goesI us L ∧ ys.length ≤ us.length ∧ (us.length = ys.length → us = ys ∧ ∀ j, 1 ≤ j → j < i → (msl.getD j refD).1 = 2 → (msl.getD j refD).2 ∈ ys) ∧ Below X2.heap.size X2 wr ∧ Below Y.heap.size Y wr) (fun _ p _ => msl.length - (intOf p).toNat)
                    case atStart => exact ⟨1, _, ys, rfl, hFl, Nat.le_refl _, by go_num, HOY.out, HGY.out, HGO.out, Nat.le_refl _, fun _ => ⟨rfl, fun j h1 h2 => absurd h2 (by omega)⟩, HBY.out, Below.refl _ _⟩
                    case round =>
                      obtain ⟨i, vv, us, rfl, hi, hFi, rfl, hO, hgood, hgo, hle2, hsm2, hB, hBY⟩ := hrel
                      have hgl3 := HGL.out us hgood
                      obtain ⟨va3, vc3, hvv⟩ : ∃ a c, vv = .slice a us.length c := by
                        obtain ⟨a, c, e, _⟩ := own_ints hO
                        exact ⟨a, c, e⟩
                      subst hvv
                      obtain ⟨_, _, _, _, t4, _⟩ := five_cells (five_below HTY.out hBY)
                      have HO4 : Hid _ := hO
                      have HG4 : Hid _ := hgood
                      have HGO4 : Hid _ := hgo
                      have HSM4 : Hid _ := hsm2
                      have HB4 : Hid _ := hB
                      have HBY4 : Hid _ := hBY
                      by_cases hlt4 : i < msl.length
                      · obtain ⟨a', cap', e, _, _, _, hc⟩ := refsAt_below HSVY.out hBY
                        injection e with e1 e2 e3
                        subst e1 e3
                        obtain ⟨b4, off4, e4, hb4, hcc4⟩ := hc (by omega)
                        injection e4 with e4
                        injection e4 with e5 e6
                        subst e5 e6
                        obtain ⟨y0, y1⟩ := hcc4 i hlt4
                        have hme : msl.getD i refD ∈ msl.drop 1 := by
                          rw [List.getD_eq_getElem?_getD, List.getElem?_eq_getElem hlt4]
                          exact List.mem_iff_getElem.2 ⟨i - 1, by rw [List.length_drop]; omega, by rw [List.getElem_drop]; exact getElem_congr_idx (by omega)⟩
                        have hput := HSF.out _ hme
                        have HNXN : Hid (¬ (msl.getD i refD).1 = 2 → us.length = ys.length → us = ys ∧ ∀ j, 1 ≤ j → j < i + 1 → (msl.getD j refD).1 = 2 → (msl.getD j refD).2 ∈ ys) := fun hn e => by
                          obtain ⟨e1, h1⟩ := HSM4.out e
                          refine ⟨e1, fun j h2 h3 h4 => ?_⟩
                          by_cases ej : j = i
                          · rw [ej] at h4; exact absurd h4 hn
                          · exact h1 j h2 (by omega) h4
                        have HNXY : Hid ((putI (msl.getD i refD).2 us).length = ys.length → putI (msl.getD i refD).2 us = ys ∧ ∀ j, 1 ≤ j → j < i + 1 → (msl.getD j refD).1 = 2 → (msl.getD j refD).2 ∈ ys) := fun e => by
                          have hl := @len_putI (msl.getD i refD).2 us
                          have eu : us.length = ys.length := by omega
                          obtain ⟨e1, h1⟩ := HSM4.out eu
                          have e2 := hl.2.2 (by omega)
                          refine ⟨e2.trans e1, fun j h2 h3 h4 => ?_⟩
                          by_cases ej : j = i
                          · have : (msl.getD i refD).2 ∈ putI (msl.getD i refD).2 us := mem_putI.2 (.inl rfl)
                            rw [e2, e1] at this
                            rw [ej]
                            exact this
                          · exact h1 j h2 (by omega) h4
                        clear hc hcc4 e2 hme
                        generalize msl.getD i refD = e0 at *
                        obtain ⟨ek, en⟩ := e0
                        simp only at y0 y1 hput HNXN HNXY
                        by_cases he : ek = 2
                        · subst he
                          have sB := hB.size
                          have sBY := hBY.size
                          have PT := l1Put_any hO (by omega) (by omega) en
                          have HGP : Hid (Good G (putI en us)) := by
                            obtain ⟨p, hp, e⟩ := hput rfl
                            exact good_put hgood hp e
                          have HGG : Hid (goesI (putI en us) L) := goesI_mono hgo (fun a ha => mem_putI.2 (.inr ha))
                          have HLE : Hid (ys.length ≤ (putI en us).length) := Nat.le_trans hle2 (@len_putI en us).1
                          clear hO hgood hgo hsm2 hB hBY hput HNXN
                          go_wp2_with (go_at_call 61; refine PT.mono ?_; clear PT; rintro e w5 ⟨v5, rfl, o5, b5⟩; obtain ⟨va5, vn5, vc5, rfl⟩ := ints_sl (own_ints o5); have HO5 : Hid _ := o5; have HB5 : Hid _ := HB4.out.trans (b5.mono sB); have HBY5 : Hid _ := HBY4.out.trans (b5.mono sBY); clear o5 b5)
                          exact ⟨⟨i + 1, _, _, rfl, by omega, by omega, by go_num, HO5.out, HGP.out, HGG.out, HLE.out, HNXY.out, HB5.out, HBY5.out⟩, by simp [intOf]; omega⟩
                        · have he' : (ek == 2) = false := by simpa using he
                          have HNX2 : Hid _ := HNXN.out he
                          clear hO hgood hgo hsm2 hB hBY hput HNXN HNXY he
                          go_wp2
                          exact ⟨⟨i + 1, _, us, rfl, by omega, by omega, by go_num, HO4.out, HG4.out, HGO4.out, hle2, HNX2.out, HB4.out, HBY4.out⟩, by simp [intOf]; omega⟩
                      · have e : i = msl.length := by omega
                        subst e
                        have HX : Hid (us.length = xs.length → us = xs ∧ ∀ j, j < k + 1 → DoneI G xs j) := fun e => by
                          obtain ⟨e1, h1⟩ := HSM4.out (by omega)
                          obtain ⟨e2, h2⟩ := HSM.out (by omega)
                          refine ⟨e1.trans e2, fun j hj => ?_⟩
                          by_cases ej : j = k
                          · rw [ej, ← e2]
                            refine HDF.out fun r hr h3 => ?_
                            obtain ⟨n', hn', rfl⟩ := List.getElem_of_mem hr
                            rw [List.length_drop] at hn'
                            rw [List.getElem_drop] at h3 ⊢
                            have hq := h1 (1 + n') (by omega) (by omega)
                            rw [List.getD_eq_getElem?_getD, List.getElem?_eq_getElem (by omega)] at hq
                            exact hq h3
                          · exact h2 j (by omega)
                        clear hO hgood hgo hsm2 hB hBY
                        go_wp2
                        exact ⟨⟨k + 1, _, us, rfl, by omega, by go_num, HO4.out, HG4.out, HGO4.out, by omega, HX.out, HB4.out⟩, by simp [intOf]; omega⟩
                  · rw [decide_eq_false hn0] at HS0
                    obtain ⟨hFl, hsf, hdf⟩ := HFK.out ys HGY.out hin msl.length (.inr (.inr (.inr ⟨rfl, rfl, by show (msl.getD 0 refD).1 = 2; rw [he0], by show (msl.getD 0 refD).2 ∉ ys; rw [he0]; exact hn0⟩)))
                    have HSF : Hid _ := hsf
                    have HDF : Hid _ := hdf
                    clear hsf hdf HFK HKEY HFMT HNO
                    go_wp2_with (go_at_call 62; refine HS0.mono ?_; clear HS0; rintro e w5 ⟨rfl, hw5⟩; rw [hw5]; clear hw5)
                    go_loopw [3, 10] (fun v p wr => ∃ (i : Nat) (vv : Value) (us : List Int), vv = v ∧ i ≤ msl.length ∧ msl.length ≤ i ∧ p = .int .i64 i ∧ Own wr w.heap.size vv us ∧ Good G us ∧ goesI us L ∧ ys.length ≤ us.length ∧ (us.length = ys.length → us = ys ∧ ∀ j, msl.length ≤ j → j < i → (msl.getD j refD).1 = 2 → (msl.getD j refD).2 ∈ ys) ∧ Below X2.heap.size X2 wr ∧ Below Y.heap.size Y wr) (fun _ p _ => msl.length - (intOf p).toNat)
                    case atStart => exact ⟨msl.length, _, ys, rfl, hFl, Nat.le_refl _, by go_num, HOY.out, HGY.out, HGO.out, Nat.le_refl _, fun _ => ⟨rfl, fun j h1 h2 => absurd h2 (by omega)⟩, HBY.out, Below.refl _ _⟩
                    case round =>
                      obtain ⟨i, vv, us, rfl, hi, hFi, rfl, hO, hgood, hgo, hle2, hsm2, hB, hBY⟩ := hrel
                      have hgl3 := HGL.out us hgood
                      obtain ⟨va3, vc3, hvv⟩ : ∃ a c, vv = .slice a us.length c := by
                        obtain ⟨a, c, e, _⟩ := own_ints hO
                        exact ⟨a, c, e⟩
                      subst hvv
                      obtain ⟨_, _, _, _, t4, _⟩ := five_cells (five_below HTY.out hBY)
                      have HO4 : Hid _ := hO
                      have HG4 : Hid _ := hgood
                      have HGO4 : Hid _ := hgo
                      have HSM4 : Hid _ := hsm2
                      have HB4 : Hid _ := hB
                      have HBY4 : Hid _ := hBY
                      by_cases hlt4 : i < msl.length
                      · exact absurd hlt4 (by omega)
                      · have e : i = msl.length := by omega
                        subst e
                        have HX : Hid (us.length = xs.length → us = xs ∧ ∀ j, j < k + 1 → DoneI G xs j) := fun e => by
                          obtain ⟨e1, h1⟩ := HSM4.out (by omega)
                          obtain ⟨e2, h2⟩ := HSM.out (by omega)
                          refine ⟨e1.trans e2, fun j hj => ?_⟩
                          by_cases ej : j = k
                          · rw [ej, ← e2]
                            refine HDF.out fun r hr h3 => ?_
                            obtain ⟨n', hn', rfl⟩ := List.getElem_of_mem hr
                            rw [List.length_drop] at hn'
                            rw [List.getElem_drop] at h3 ⊢
                            have hq := h1 (msl.length + n') (by omega) (by omega)
                            rw [List.getD_eq_getElem?_getD, List.getElem?_eq_getElem (by omega)] at hq
                            exact hq h3
                          · exact h2 j (by omega)
                        clear hO hgood hgo hsm2 hB hBY
                        go_wp2
                        exact ⟨⟨k + 1, _, us, rfl, by omega, by go_num, HO4.out, HG4.out, HGO4.out, by omega, HX.out, HB4.out⟩, by simp [intOf]; omega⟩
                · have hk2' : (k0 == 2) = false := by simpa using hk2
                  obtain ⟨hFl, hsf, hdf⟩ := HFK.out ys HGY.out hin 1 (.inr (.inr (.inl ⟨rfl, rfl, fun h => hk2 (by have := h.1; rw [show (MO.abs ⟨mi, mc, 2, mh, _, msl⟩).slots = msl from rfl, he0] at this; exact this)⟩)))
                  have HSF : Hid _ := hsf
                  have HDF : Hid _ := hdf
                  clear hsf hdf HFK HKEY HFMT HNO
                  go_wp2_with fail
                  go_loopw [3, 10] (fun v p wr => ∃ (i : Nat) (vv : Value) (us : List Int), vv = v ∧ i ≤ msl.length ∧ 1 ≤ i ∧ p = .int .i64 i ∧ Own wr w.heap.size vv us ∧ Good G us ∧ goesI us L ∧ ys.length ≤ us.length ∧ (us.length = ys.length → us = ys ∧ ∀ j, 1 ≤ j → j < i → (msl.getD j refD).1 = 2 → (msl.getD j refD).2 ∈ ys) ∧ Below X2.heap.size X2 wr ∧ Below Y.heap.size Y wr) (fun _ p _ => msl.length - (intOf p).toNat)
                  case atStart => exact ⟨1, _, ys, rfl, hFl, Nat.le_refl _, by go_num, HOY.out, HGY.out, HGO.out, Nat.le_refl _, fun _ => ⟨rfl, fun j h1 h2 => absurd h2 (by omega)⟩, HBY.out, Below.refl _ _⟩
                  case round =>
                    obtain ⟨i, vv, us, rfl, hi, hFi, rfl, hO, hgood, hgo, hle2, hsm2, hB, hBY⟩ := hrel
                    have hgl3 := HGL.out us hgood
                    obtain ⟨va3, vc3, hvv⟩ : ∃ a c, vv = .slice a us.length c := by
                      obtain ⟨a, c, e, _⟩ := own_ints hO
                      exact ⟨a, c, e⟩
                    subst hvv
                    obtain ⟨_, _, _, _, t4, _⟩ := five_cells (five_below HTY.out hBY)
                    have HO4 : Hid _ := hO
                    have HG4 : Hid _ := hgood
                    have HGO4 : Hid _ := hgo
                    have HSM4 : Hid _ := hsm2
                    have HB4 : Hid _ := hB
                    have HBY4 : Hid _ := hBY
                    by_cases hlt4 : i < msl.length
                    · obtain ⟨a', cap', e, _, _, _, hc⟩ := refsAt_below HSVY.out hBY
                      injection e with e1 e2 e3
                      subst e1 e3
                      obtain ⟨b4, off4, e4, hb4, hcc4⟩ := hc (by omega)
                      injection e4 with e4
                      injection e4 with e5 e6
                      subst e5 e6
                      obtain ⟨y0, y1⟩ := hcc4 i hlt4
                      have hme : msl.getD i refD ∈ msl.drop 1 := by
                        rw [List.getD_eq_getElem?_getD, List.getElem?_eq_getElem hlt4]
                        exact List.mem_iff_getElem.2 ⟨i - 1, by rw [List.length_drop]; omega, by rw [List.getElem_drop]; exact getElem_congr_idx (by omega)⟩
                      have hput := HSF.out _ hme
                      have HNXN : Hid (¬ (msl.getD i refD).1 = 2 → us.length = ys.length → us = ys ∧ ∀ j, 1 ≤ j → j < i + 1 → (msl.getD j refD).1 = 2 → (msl.getD j refD).2 ∈ ys) := fun hn e => by
                        obtain ⟨e1, h1⟩ := HSM4.out e
                        refine ⟨e1, fun j h2 h3 h4 => ?_⟩
                        by_cases ej : j = i
                        · rw [ej] at h4; exact absurd h4 hn
                        · exact h1 j h2 (by omega) h4
                      have HNXY : Hid ((putI (msl.getD i refD).2 us).length = ys.length → putI (msl.getD i refD).2 us = ys ∧ ∀ j, 1 ≤ j → j < i + 1 → (msl.getD j refD).1 = 2 → (msl.getD j refD).2 ∈ ys) := fun e => by
                        have hl := @len_putI (msl.getD i refD).2 us
                        have eu : us.length = ys.length := by omega
                        obtain ⟨e1, h1⟩ := HSM4.out eu
                        have e2 := hl.2.2 (by omega)
                        refine ⟨e2.trans e1, fun j h2 h3 h4 => ?_⟩
                        by_cases ej : j = i
                        · have : (msl.getD i refD).2 ∈ putI (msl.getD i refD).2 us := mem_putI.2 (.inl rfl)
                          rw [e2, e1] at this
                          rw [ej]
                          exact this
                        · exact h1 j h2 (by omega) h4
                      clear hc hcc4 e2 hme
                      generalize msl.getD i refD = e0 at *
                      obtain ⟨ek, en⟩ := e0
                      simp only at y0 y1 hput HNXN HNXY
                      by_cases he : ek = 2
                      · subst he
                        have sB := hB.size
                        have sBY := hBY.size
                        have PT := l1Put_any hO (by omega) (by omega) en
                        have HGP : Hid (Good G (putI en us)) := by
                          obtain ⟨p, hp, e⟩ := hput rfl
                          exact good_put hgood hp e
                        have HGG : Hid (goesI (putI en us) L) := goesI_mono hgo (fun a ha => mem_putI.2 (.inr ha))
                        have HLE : Hid (ys.length ≤ (putI en us).length) := Nat.le_trans hle2 (@len_putI en us).1
                        clear hO hgood hgo hsm2 hB hBY hput HNXN
                        go_wp2_with (go_at_call 61; refine PT.mono ?_; clear PT; rintro e w5 ⟨v5, rfl, o5, b5⟩; obtain ⟨va5, vn5, vc5, rfl⟩ := ints_sl (own_ints o5); have HO5 : Hid _ := o5; have HB5 : Hid _ := HB4.out.trans (b5.mono sB); have HBY5 : Hid _ := HBY4.out.trans (b5.mono sBY); clear o5 b5)
                        exact ⟨⟨i + 1, _, _, rfl, by omega, by omega, by go_num, HO5.out, HGP.out, HGG.out, HLE.out, HNXY.out, HB5.out, HBY5.out⟩, by simp [intOf]; omega⟩
                      · have he' : (ek == 2) = false := by simpa using he
                        have HNX2 : Hid _ := HNXN.out he
                        clear hO hgood hgo hsm2 hB hBY hput HNXN HNXY he
                        go_wp2
                        exact ⟨⟨i + 1, _, us, rfl, by omega, by omega, by go_num, HO4.out, HG4.out, HGO4.out, hle2, HNX2.out, HB4.out, HBY4.out⟩, by simp [intOf]; omega⟩
                    · have e : i = msl.length := by omega
                      subst e
                      have HX : Hid (us.length = xs.length → us = xs ∧ ∀ j, j < k + 1 → DoneI G xs j) := fun e => by
                        obtain ⟨e1, h1⟩ := HSM4.out (by omega)
                        obtain ⟨e2, h2⟩ := HSM.out (by omega)
                        refine ⟨e1.trans e2, fun j hj => ?_⟩
                        by_cases ej : j = k
                        · rw [ej, ← e2]
                          refine HDF.out fun r hr h3 => ?_
                          obtain ⟨n', hn', rfl⟩ := List.getElem_of_mem hr
                          rw [List.length_drop] at hn'
                          rw [List.getElem_drop] at h3 ⊢
                          have hq := h1 (1 + n') (by omega) (by omega)
                          rw [List.getD_eq_getElem?_getD, List.getElem?_eq_getElem (by omega)] at hq
                          exact hq h3
                        · exact h2 j (by omega)
                      clear hO hgood hgo hsm2 hB hBY
                      go_wp2
                      exact ⟨⟨k + 1, _, us, rfl, by omega, by go_num, HO4.out, HG4.out, HGO4.out, by omega, HX.out, HB4.out⟩, by simp [intOf]; omega⟩
            · rw [decide_eq_false hin]
              have HX : Hid (ys.length = xs.length → ys = xs ∧ ∀ j, j < k + 1 → DoneI G xs j) := fun e => by
                obtain ⟨e1, h1⟩ := HSM.out e
                refine ⟨e1, fun j hj => ?_⟩
                by_cases ej : j = k
                · rw [ej, ← e1]; exact HNO.out hin
                · exact h1 j (by omega)
              clear hin
              go_wp2
              exact ⟨⟨k + 1, _, ys, rfl, by omega, by go_num, HOY.out, HGY.out, HGO.out, hle, HX.out, HBY.out⟩, by simp [intOf]; omega⟩
          · have e : k = ms.length := by omega
            subst e
            by_cases he : ys.length = xs.length
            · obtain ⟨e1, hd⟩ := hsame he
              subst e1
              have hfin : ys = zs := isR_unique (good_all HOK.out hgood (by rw [HLL.out]; exact hgo) (fun j hj => hd j (by rw [HLEN.out]; exact hj))) HZ.out
              subst hfin
              have HF : Hid (Own wr w.heap.size (.slice va2 ys.length vc2) ys) := hO
              have HFB : Hid (Below w.heap.size w wr) := HB2.out.trans (hB.mono sz2)
              have hll : ((ys.length : Int) == (ys.length : Int)) = true := by simp
              clear hO hgood hgo hsame hB hd he
              go_wp2
              go_ret
              exact ⟨_, rfl, HF.out, HFB.out⟩
            · have hll : ((ys.length : Int) == (xs.length : Int)) = false := by
                rw [beq_eq_false_iff_ne]
                omega
              have hlt2 : xs.length < ys.length := by omega
              clear hO hgood hgo hsame hB
              go_wp2
              exact ⟨⟨_, ys, rfl, HO.out, HGY.out, HGO.out, HB.out⟩, by simp [slen]; omega⟩
end Go.Proofs.Ytdogibjgogcdkal.gr
namespace Go.Proofs.Ytdogibjgogcdkal.gr
open Go.RowKit rows heads
set_option maxRecDepth 100000
set_option linter.unusedVariables false

set_option maxHeartbeats 4000000 in
theorem sReached_any {w : World} {o r m : Value} {ms : List MO} {G : Gr} (h : GraphAt w o r m ms G) (hs : gSize ms G ≤ 1048576) {xs : List Int} (hx : IsReached G xs) :
    Calls Try.prog 9 #[gv o r m G.next G.seed] w fun e w' => ∃ v, e = .returned v ∧ Own w' w.heap.size v xs ∧ Below w.heap.size w w' := by
  obtain ⟨a1, n1, c1, a2, n2, c2, a3, n3, c3, e1, e2, e3⟩ := graphAt_slices h
  subst e1 e2 e3
  have B : Below w.heap.size w (w.alloc (gb (.slice a1 n1 c1) (.slice a2 n2 c2) (.slice a3 n3 c3) G.next G.seed)) := (Below.refl _ w).alloc (Nat.le_refl _) _
  have T := five_new w 32 (.slice a1 n1 c1) (.slice a2 n2 c2) (.slice a3 n3 c3) (.int .i64 G.next) (.int .i64 G.seed)
  have GO := sGraphOk_any (graphAt_below h B) hs
  have HG : Hid _ := h
  have HB : Hid _ := B
  have HT : Hid _ := T
  have HX : Hid _ := hx
  clear h B T hx
  go_enter Try.func9, Try.ntmps9
  go_wp2_with fail
  generalize hX : (w.alloc (gb (.slice a1 n1 c1) (.slice a2 n2 c2) (.slice a3 n3 c3) G.next G.seed)) = X at *
  clear hX
  refine GO.mono ?_
  rintro e w1 ⟨rfl, b1⟩
  have B1 := HB.out.trans (b1.mono HB.out.size)
  have T1 := five_below HT.out b1
  have HB1 : Hid _ := B1
  clear GO HB HT b1
  cases ok : gOk G
  · have hxs : xs = [] := by
      rcases HX.out with ⟨_, e⟩ | ⟨e, _⟩
      · exact e
      · rw [ok] at e; cases e
    subst hxs
    have HF : Hid (Own (w1.alloc (.cells #[] 2)) w.heap.size (.slice (some ⟨w1.heap.size, 0, none⟩) 0 0) []) := ⟨rfl, .inr ⟨w1.heap.size, 0, #[], rfl, B1.size, heap_alloc_new w1 _, Nat.le_refl _, by decide, rfl, rfl⟩⟩
    have HFB : Hid (Below w.heap.size w (w1.alloc (.cells #[] 2))) := B1.alloc B1.size _
    clear B1 T1 HG HX
    go_wp2
    go_ret
    exact ⟨_, rfl, HF.out, HFB.out⟩
  · have hxs : IsR G xs := by
      rcases HX.out with ⟨e, _⟩ | ⟨_, e⟩
      · rw [ok] at e; cases e
      · exact e
    have L7 := l7Reached_any (graphAt_below HG.out B1) ok hxs
    obtain ⟨z0, z1, z2, z3, z4, _⟩ := five_cells T1
    have sz1 := B1.size
    clear B1 T1 HG HX hxs
    go_wp2_with fail
    refine L7.mono ?_
    rintro e w2 ⟨v, rfl, O2, b2⟩
    obtain ⟨va, vn, vc, rfl⟩ := ints_sl (own_ints O2)
    have HF : Hid (Own w2 w.heap.size _ xs) := own_base O2 sz1
    have HFB : Hid _ := HB1.out.trans (b2.mono sz1)
    clear L7 O2 b2
    go_wp2
    go_ret
    exact ⟨_, rfl, HF.out, HFB.out⟩
end Go.Proofs.Ytdogibjgogcdkal.gr
namespace Go.Proofs.Ytdogibjgogcdkal.gr
open Go.RowKit rows heads
set_option maxRecDepth 100000
set_option linter.unusedVariables false

theorem ints_slice {w : World} {v : Value} {xs : List Int} (h : IntsAt w v xs) : ∃ a n c, v = .slice a n c := by
  obtain ⟨a, c, e, _⟩ := h
  exact ⟨a, _, c, e⟩
theorem bel_of_drewN {w w' : World} (h : ∃ n, w' = w.drewN n) : Below w.heap.size w w' := by
  obtain ⟨n, rfl⟩ := h
  exact bel_drewN (Below.refl _ _)
set_option maxHeartbeats 16000000 in
theorem exactGrieving {G : Gr} {xs : List Int}
    (SPEC : ∀ (w : World) (o r m : Value) (ms : List MO), GraphAt w o r m ms G → gSize ms G ≤ 1048576 → Calls Try.prog 17 #[gv o r m G.next G.seed] w fun e w' => ∃ v, e = .returned v ∧ Own w' w.heap.size v xs ∧ Below w.heap.size w w')
    (IMPL : ∀ (w : World) (o r m : Value) (ms : List MO), GraphAt w o r m ms G → gSize ms G ≤ 1048576 → Calls Try.prog 18 #[gv o r m G.next G.seed] w fun e w' => ∃ v, e = .returned v ∧ Own w' w.heap.size v xs ∧ Below w.heap.size w w')
    (hR : xs.length ≤ 1048576)
    (w : World) (o r m : Value) (ms : List MO) (h : GraphAt w o r m ms G) :
    Calls Try.prog 4 #[gv o r m G.next G.seed] w fun e w' => e = .returned (.bool true) ∧ Below w.heap.size w w' := by
  obtain ⟨a1, n1, c1, a2, n2, c2, a3, n3, c3, e1, e2, e3⟩ := graphAt_slices h
  subst e1 e2 e3
  have B0 : Below w.heap.size w (w.alloc (.cells #[.slice a1 n1 c1, .slice a2 n2 c2, .slice a3 n3 c3, .int .i64 G.next, .int .i64 G.seed] 25)) := (Below.refl _ w).alloc (Nat.le_refl _) _
  have T0 := five_new w 25 (.slice a1 n1 c1) (.slice a2 n2 c2) (.slice a3 n3 c3) (.int .i64 G.next) (.int .i64 G.seed)
  have SZ := szGraph_any (graphAt_below h B0) 1048576 (Nat.le_refl _)
  have HG : Hid _ := h
  have HB0 : Hid _ := B0
  have HT0 : Hid _ := T0
  clear B0 T0 h
  go_enter Try.func4, Try.ntmps4
  go_wp2_with fail
  generalize (w.alloc (Obj.cells #[.slice a1 n1 c1, .slice a2 n2 c2, .slice a3 n3 c3, .int .i64 G.next, .int .i64 G.seed] 25)) = X0 at *
  refine SZ.mono ?_
  rintro e w1 ⟨rfl, q1⟩
  have B1 := HB0.out.trans (q1.mono HB0.out.size)
  have T1 := five_below HT0.out q1
  clear SZ HB0 HT0 q1
  by_cases hsz : gSize ms G ≤ 1048576
  case neg =>
    rw [if_neg hsz]
    have HB : Hid _ := B1
    clear B1 T1 HG
    go_wp2
    go_ret
    exact ⟨rfl, HB⟩
  rw [if_pos hsz]
  obtain ⟨lf, hlf⟩ : ∃ lf : Nat, ((1048576 : Nat) : Int) - (gSize ms G : Int) = (lf : Int) := ⟨1048576 - gSize ms G, by omega⟩
  rw [hlf]
  have hl0 : ¬ (lf : Int) < 0 := by omega
  clear hlf
  obtain ⟨z0, z1, z2, z3, z4, _⟩ := five_cells T1
  -- the specification's answer
  have TG := toGraph_any (graphAt_below HG.out B1) hsz
  have HT1 : Hid _ := T1
  have HB1 : Hid _ := B1
  clear T1 B1
  go_wp2_with fail
  refine TG.mono ?_
  rintro e w2 ⟨o2, r2, m2, rs2, rfl, O2, q2⟩
  have B2 := HB1.out.trans (q2.mono HB1.out.size)
  have T2 := five_below HT1.out q2
  obtain ⟨d1, f1, g1, d2, f2, g2, d3, f3, g3, e1, e2, e3⟩ := graphAt_slices (ownG_at O2)
  subst e1 e2 e3
  have SP := SPEC w2 _ _ _ _ (ownG_at O2) (gSize_of O2.1 HG.out.1 hsz)
  have HT2 : Hid _ := T2
  have HB2 : Hid _ := B2
  clear TG q2 T2 B2 HT1 HB1 O2 SPEC z0 z1 z2 z3 z4
  go_wp2_with fail
  refine SP.mono ?_
  rintro e w4 ⟨vW, rfl, O4, q4⟩
  obtain ⟨wa, wn, wc, rfl⟩ := ints_slice (own_ints O4)
  have B4 := HB2.out.trans (q4.mono HB2.out.size)
  have T4 := five_below HT2.out q4
  have L4 := blk_lt O4
  have p5 := lt_of_block T4
  obtain ⟨z0, z1, z2, z3, z4, _⟩ := five_cells T4
  have TG := toGraph_any (graphAt_below HG.out B4) hsz
  have HT4 : Hid _ := T4
  have HB4 : Hid _ := B4
  have HO4 : Hid _ := O4
  have HL4 : Hid _ := L4
  clear SP HT2 HB2 B4 T4 O4 q4 L4
  go_wp2_with fail
  refine TG.mono ?_
  rintro e w5 ⟨o5, r5, m5, rs5, rfl, O5, q5⟩
  have s5 := q5.size
  have B5 := HB4.out.trans (q5.mono HB4.out.size)
  have T5 := five_below HT4.out q5
  have OW5 := own_below HO4.out q5
  obtain ⟨h1, i1, j1, h2, i2, j2, h3, i3, j3, e1, e2, e3⟩ := graphAt_slices (ownG_at O5)
  subst e1 e2 e3
  have N5 := (Below.refl w5.heap.size w5).alloc (Nat.le_refl _) (gb (.slice h1 i1 j1) (.slice h2 i2 j2) (.slice h3 i3 j3) G.next G.seed)
  have B6 := B5.trans (N5.mono B5.size)
  have T6 := five_below T5 N5
  have OW6 := own_below OW5 N5
  have X6f := five_new w5 32 (.slice h1 i1 j1) (.slice h2 i2 j2) (.slice h3 i3 j3) (.int .i64 G.next) (.int .i64 G.seed)
  have OX6 := ownG_below O5 N5
  have LX := ownG_lt O5
  obtain ⟨x0, x1, x2, x3, x4, _⟩ := five_cells X6f
  have IM := IMPL _ _ _ _ _ (ownG_at OX6) (gSize_of OX6.1 HG.out.1 hsz)
  have p14 : w5.heap.size < (w5.alloc (gb (.slice h1 i1 j1) (.slice h2 i2 j2) (.slice h3 i3 j3) G.next G.seed)).heap.size := by simp
  have HB6 : Hid _ := B6
  have HT6 : Hid _ := T6
  have HOW6 : Hid _ := OW6
  have HX6 : Hid _ := X6f
  have HOX6 : Hid _ := OX6
  have HLX : Hid _ := LX
  clear TG HB4 HT4 HO4 q5 B5 T5 OW5 N5 B6 T6 OW6 X6f OX6 LX O5 z0 z1 z2 z3 z4
  -- the program's answer
  go_wp2_with fail
  generalize hX6 : (w5.alloc (gb (.slice h1 i1 j1) (.slice h2 i2 j2) (.slice h3 i3 j3) G.next G.seed)) = X6 at *
  generalize hP14 : w5.heap.size = P14 at *
  clear hX6
  refine IM.mono ?_
  rintro e w8 ⟨vY, rfl, O8, q8⟩
  obtain ⟨ya, yn, yc, rfl⟩ := ints_slice (own_ints O8)
  have s8 := q8.size
  have B8 := HB6.out.trans (q8.mono HB6.out.size)
  have T8 := five_below HT6.out q8
  have OW8 := own_below HOW6.out q8
  have X8 := five_below HX6.out q8
  have OX8 := ownG_below HOX6.out q8
  have LY := blk_lt O8
  have EQ := eqInt64S_any (own_ints O8) (own_ints OW8) hR
  rw [decide_eq_true (rfl : xs = xs)] at EQ
  have HB8 : Hid _ := B8
  have HT8 : Hid _ := T8
  have HOW8 : Hid _ := OW8
  have HX8 : Hid _ := X8
  have HOX8 : Hid _ := OX8
  have HOY8 : Hid _ := O8
  have HLY : Hid _ := LY
  clear IM HB6 HT6 HOW6 HX6 HOX6 q8 B8 T8 OW8 X8 OX8 O8 LY x0 x1 x2 x3 x4
  go_wp2_with fail
  refine EQ.mono ?_
  rintro e w9 ⟨rfl, q9'⟩
  have q9 := bel_of_drewN q9'
  have s9 := q9.size
  have B9 := HB8.out.trans (q9.mono HB8.out.size)
  have T9 := five_below HT8.out q9
  have OW9 := own_below HOW8.out q9
  have X9 := five_below HX8.out q9
  have OX9 := ownG_below HOX8.out q9
  have OY9 := own_below HOY8.out q9
  clear EQ HB8 HT8 HOW8 HX8 HOX8 HOY8 q9 q9'
  -- the argument is as it was
  have TG := toGraph_any (w := w9.drew) (graphAt_below HG.out B9.drew) hsz
  obtain ⟨z0, z1, z2, z3, z4, _⟩ := five_cells T9
  obtain ⟨x0, x1, x2, x3, x4, _⟩ := five_cells X9
  have HB9 : Hid _ := B9
  have HT9 : Hid _ := T9
  have HOW9 : Hid _ := OW9
  have HX9 : Hid _ := X9
  have HOX9 : Hid _ := OX9
  have HOY9 : Hid _ := OY9
  clear B9 T9 OW9 X9 OX9 OY9
  go_wp2_with fail
  go_region_law (first
    | (go_simp; go_at_call 10; refine TG.mono ?_; clear TG; rintro e w10 ⟨o10, r10, m10, rs10, rfl, O10, q10⟩
       obtain ⟨u1, u2, u3, u4, u5, u6, u7, u8, u9, e1, e2, e3⟩ := graphAt_slices (ownG_at O10)
       subst e1 e2 e3
       have D10 : Below w9.heap.size w9 w10 := ⟨q10.os, q10.tape, q10.output, q10.size, q10.block⟩
       have EQ2 := eqGraph_same (ownG_at (ownG_below HOX9.out D10)) (ownG_at O10) (gSize_of HOX9.out.1 HG.out.1 hsz)
       have X10 := five_below HX9.out D10
       obtain ⟨t0, t1, t2, t3, t4, _⟩ := five_cells X10
       have HD10 : Hid _ := D10
       clear q10 D10 O10 X10)
    | (go_simp; go_at_call 13; refine EQ2.mono ?_; clear EQ2; rintro e w11 ⟨rfl, q11⟩; have HD11 : Hid _ := HD10.out.trans (q11.mono HD10.out.size); clear q11 HD10))
  all_goals
    have D11 := HD11.out
    have B11 := HB9.out.trans (D11.mono HB9.out.size)
    have T11 := five_below HT9.out D11
    have OW11 := own_below HOW9.out D11
    have X11 := five_below HX9.out D11
    have OX11 := ownG_below HOX9.out D11
    have OY11 := own_below HOY9.out D11
    have s11 := D11.size
    clear HD11 HB9 HT9 HOW9 HX9 HOX9 HOY9 D11 z0 z1 z2 z3 z4 x0 x1 x2 x3 x4
    have MK := markGraph_any OX11 (gSize_of OX11.1 HG.out.1 hsz) 1 (by decide)
    rw [show ((1 : Nat) : Int) = 1 from rfl] at MK
    obtain ⟨x0, x1, x2, x3, x4, _⟩ := five_cells X11
    have HB11 : Hid _ := B11
    have HT11 : Hid _ := T11
    have HOW11 : Hid _ := OW11
    have HOY11 : Hid _ := OY11
    clear B11 T11 OW11 X11 OX11 OY11
    go_wp2_with fail
    refine MK.mono ?_
    rintro e w12 ⟨kE, rfl, hkE, -, C12⟩
    have kE0 : ¬ (kE : Int) < 0 := by omega
    have fx : ∀ k ∈ gblk (.slice h1 i1 j1) (.slice h2 i2 j2) (.slice h3 i3 j3) rs5, w4.heap.size ≤ k ∧ k < P14 := HLX.out
    have s12 := C12.size
    have B12 := HB11.out.trans (below_ch C12 HB11.out.size (fun k hk => by have := (fx k hk).1; omega))
    have T12 := five_ch HT11.out C12 (fun e => by have := (fx _ e).1; omega)
    have OW12 : Own w12 _ _ _ := row_ch HOW11.out C12 (fun k hk e => by have := (fx _ e).1; have := (HL4.out k hk).2; omega)
    have OY12 : Own w12 _ _ _ := row_ch HOY11.out C12 (fun k hk e => by have := (fx _ e).2; have := (HLY.out k hk).1; omega)
    clear MK C12 fx HB11 HT11 HOW11 HOY11 x0 x1 x2 x3 x4
    have EQ := eqInt64S_any (own_ints OY12) (own_ints OW12) hR
    rw [decide_eq_true (rfl : xs = xs)] at EQ
    have HB12 : Hid _ := B12
    have HT12 : Hid _ := T12
    have HOW12 : Hid _ := OW12
    have HOY12 : Hid _ := OY12
    clear B12 T12 OW12 OY12
    go_wp2_with fail
    refine EQ.mono ?_
    rintro e w13 ⟨rfl, q13'⟩
    have q13 := bel_of_drewN q13'
    have s13 := q13.size
    have B13 := HB12.out.trans (q13.mono HB12.out.size)
    have T13 := five_below HT12.out q13
    have OW13 := own_below HOW12.out q13
    have OY13 := own_below HOY12.out q13
    clear EQ q13 q13' HB12 HT12 HOW12 HOY12
    have MK := markInt64S_any OY13 hR 1 (by decide) (by decide)
    have HB13 : Hid _ := B13
    have HT13 : Hid _ := T13
    have HOW13 : Hid _ := OW13
    clear B13 T13 OW13 OY13
    go_wp2_with fail
    refine MK.mono ?_
    rintro e w14 ⟨rfl, MD14, g14⟩
    have C14 := ch_grown g14
    have k0 : ¬ (1 + (xs.length : Int)) < 0 := by omega
    have kk : ((1 + (xs.length : Int)) != (1 + (xs.length : Int))) = false := by simp
    have s14 := C14.size
    have B14 := HB13.out.trans (below_ch C14 HB13.out.size (fun k hk => by have := (HLY.out k hk).1; omega))
    have T14 := five_ch HT13.out C14 (fun e => by have := (HLY.out _ e).1; omega)
    have OW14 : Own w14 _ _ _ := row_ch HOW13.out C14 (fun k hk e => by have := (HLY.out _ e).1; have := (HL4.out k hk).2; omega)
    clear MK C14 g14 HB13 HT13 HOW13
    have HE := heldInt64S_any 1 (own_ints MD14) hR (by decide) (by decide)
    have HB14 : Hid _ := B14
    have HT14 : Hid _ := T14
    have HOW14 : Hid _ := OW14
    have HMD14 : Hid _ := MD14
    clear B14 T14 OW14 MD14
    obtain ⟨mk, hmk'⟩ : ∃ mk, (1 + (xs.length : Int)) = mk := ⟨_, rfl⟩
    rw [hmk'] at HE k0 kk ⊢
    have HMK : Hid _ := hmk'
    clear hmk'
    go_wp2_with fail
    refine HE.mono ?_
    rintro e w15 ⟨rfl, hw15⟩
    rw [hw15]
    clear hw15
    have B15 := HB14.out
    have T15 := HT14.out
    clear HE
    -- the program's answer once more
    have TG := toGraph_any (graphAt_below HG.out B15) hsz
    obtain ⟨z0, z1, z2, z3, z4, _⟩ := five_cells T15
    clear B15 T15
    go_wp2_with fail
    refine TG.mono ?_
    rintro e w16 ⟨o16, r16, m16, rs16, rfl, O16, q16⟩
    have B16 := HB14.out.trans (q16.mono HB14.out.size)
    have OW16 := own_below HOW14.out q16
    have MD16 := own_below HMD14.out q16
    obtain ⟨t1, t2, t3, t4, t5, t6, t7, t8, t9, e1, e2, e3⟩ := graphAt_slices (ownG_at O16)
    subst e1 e2 e3
    have IM := IMPL w16 _ _ _ _ (ownG_at O16) (gSize_of O16.1 HG.out.1 hsz)
    have HB16 : Hid _ := B16
    have HOW16 : Hid _ := OW16
    have HMD16 : Hid _ := MD16
    clear TG q16 B16 OW16 MD16 O16 HB14 HT14 HOW14 HMD14 z0 z1 z2 z3 z4
    go_wp2_with fail
    refine IM.mono ?_
    rintro e w17 ⟨vZ, rfl, O17, q17⟩
    obtain ⟨za, zn, zc, rfl⟩ := ints_slice (own_ints O17)
    have B17 := HB16.out.trans (q17.mono HB16.out.size)
    have OW17 := own_below HOW16.out q17
    have MD17 := own_below HMD16.out q17
    have EQ := eqInt64S_any (own_ints O17) (own_ints OW17) hR
    rw [decide_eq_true (rfl : xs = xs)] at EQ
    have HB17 : Hid _ := B17
    have HMD17 : Hid _ := MD17
    clear IM q17 B17 OW17 MD17 O17 HB16 HOW16 HMD16
    go_wp2_with fail
    refine EQ.mono ?_
    rintro e w19 ⟨rfl, q19'⟩
    have q19 := bel_of_drewN q19'
    have HB19 : Hid _ := HB17.out.trans (q19.mono HB17.out.size)
    have HE := heldInt64S_any 1 (own_ints (own_below HMD17.out q19)) hR (by decide) (by decide)
    rw [HMK.out] at HE
    clear EQ q19 q19' HB17 HMD17
    go_wp2_with fail
    refine HE.mono ?_
    rintro e w20 ⟨rfl, hw20⟩
    rw [hw20]
    clear HE hw20
    go_wp2
    go_ret
    exact ⟨rfl, HB19⟩
end Go.Proofs.Ytdogibjgogcdkal.gr
namespace Go.Proofs.Ytdogibjgogcdkal.gr
open Go Go.RowKit Go.Shelf

def lsort_ren : Go.Shelf.Ren := ⟨fun | 6 => 75 | 15 => 99 | 14 => 98 | 28 => 125 | 29 => 126 | 20 => 117 | 21 => 118 | 22 => 119 | 23 => 120 | 24 => 121 | 25 => 122 | 26 => 123 | 27 => 124 | 46 => 135 | 47 => 136 | 48 => 137 | 49 => 138 | 50 => 139 | 57 => 140 | n => n, fun | 22 => 56 | 24 => 3 | 25 => 101 | 3 => 3 | 39 => 122 | 0 => 0 | 53 => 147 | 55 => 149 | 4 => 4 | 46 => 141 | 45 => 140 | 50 => 91 | 5 => 5 | 9 => 9 | 66 => 157 | 70 => 161 | 76 => 163 | 77 => 164 | n => n, fun | n => n⟩
theorem lsort : Go.Proofs.SlLaysF.n6 Try.prog lsort_ren := {
  mixed := by kernel_rfl
  f6 := ⟨Try.f75.name, by decide, Try.func75.trans (congrArg some (by kernel_rfl))⟩
  f14 := ⟨Try.f98.name, by decide, Try.func98.trans (congrArg some (by kernel_rfl))⟩
  f15 := Try.func99.trans (congrArg some (by kernel_rfl))
  f20 := ⟨Try.f117.name, by decide, Try.func117.trans (congrArg some (by kernel_rfl))⟩
  f21 := ⟨Try.f118.name, by decide, Try.func118.trans (congrArg some (by kernel_rfl))⟩
  f22 := ⟨Try.f119.name, by decide, Try.func119.trans (congrArg some (by kernel_rfl))⟩
  f23 := ⟨Try.f120.name, by decide, Try.func120.trans (congrArg some (by kernel_rfl))⟩
  f24 := ⟨Try.f121.name, by decide, Try.func121.trans (congrArg some (by kernel_rfl))⟩
  f25 := ⟨Try.f122.name, by decide, Try.func122.trans (congrArg some (by kernel_rfl))⟩
  f26 := ⟨Try.f123.name, by decide, Try.func123.trans (congrArg some (by kernel_rfl))⟩
  f27 := ⟨Try.f124.name, by decide, Try.func124.trans (congrArg some (by kernel_rfl))⟩
  f28 := Try.func125.trans (congrArg some (by kernel_rfl))
  f29 := Try.func126.trans (congrArg some (by kernel_rfl))
  f46 := ⟨Try.f135.name, by decide, Try.func135.trans (congrArg some (by kernel_rfl))⟩
  f47 := Try.func136.trans (congrArg some (by kernel_rfl))
  f48 := Try.func137.trans (congrArg some (by kernel_rfl))
  f49 := ⟨Try.f138.name, by decide, Try.func138.trans (congrArg some (by kernel_rfl))⟩
  f50 := ⟨Try.f139.name, by decide, Try.func139.trans (congrArg some (by kernel_rfl))⟩
  f57 := ⟨Try.f140.name, by decide, Try.func140.trans (congrArg some (by kernel_rfl))⟩
  t0 := Try.underlying0
  a0 := Try.isAgg0
  z0 := Try.sizeOf0
  v0 := Try.zeroValue0
  t3 := Try.underlying3
  a3 := Try.isAgg3
  z3 := Try.sizeOf3
  v3 := Try.zeroValue3
  t4 := Try.underlying4
  a4 := Try.isAgg4
  z4 := Try.sizeOf4
  v4 := Try.zeroValue4
  t5 := Try.underlying5
  a5 := Try.isAgg5
  z5 := Try.sizeOf5
  v5 := Try.zeroValue5
  t9 := Try.underlying9
  a9 := Try.isAgg9
  z9 := Try.sizeOf9
  v9 := Try.zeroValue9
  t22 := Try.underlying56
  a22 := Try.isAgg56
  z22 := Try.sizeOf56
  v22 := Try.zeroValue56
  a24 := Try.isAgg3
  z24 := Try.sizeOf3
  t25 := Try.underlying101
  a25 := Try.isAgg101
  z25 := Try.sizeOf101
  v25 := Try.zeroValue101
  t39 := Try.underlying122
  a39 := Try.isAgg122
  z39 := Try.sizeOf122
  v39 := Try.zeroValue122
  t45 := Try.underlying140
  a45 := Try.isAgg140
  z45 := Try.sizeOf140
  v45 := Try.zeroValue140
  t46 := Try.underlying141
  a46 := Try.isAgg141
  z46 := Try.sizeOf141
  v46 := Try.zeroValue141
  t50 := Try.underlying91
  a50 := Try.isAgg91
  z50 := Try.sizeOf91
  v50 := Try.zeroValue91
  t53 := Try.underlying147
  a53 := Try.isAgg147
  z53 := Try.sizeOf147
  v53 := Try.zeroValue147
  t55 := Try.underlying149
  a55 := Try.isAgg149
  z55 := Try.sizeOf149
  v55 := Try.zeroValue149
  t66 := Try.underlying157
  a66 := Try.isAgg157
  z66 := Try.sizeOf157
  v66 := Try.zeroValue157
  t70 := Try.underlying161
  a70 := Try.isAgg161
  z70 := Try.sizeOf161
  v70 := Try.zeroValue161
  t76 := Try.underlying163
  a76 := Try.isAgg163
  z76 := Try.sizeOf163
  v76 := Try.zeroValue163
  t77 := Try.underlying164
  a77 := Try.isAgg164
  z77 := Try.sizeOf164
  v77 := Try.zeroValue164 }
end Go.Proofs.Ytdogibjgogcdkal.gr
namespace Go.Proofs.Ytdogibjgogcdkal.gr
open Go.RowKit rows heads
set_option maxRecDepth 100000
set_option linter.unusedVariables false

def orI (u v : Int) : Int := if u = 0 then v else u
set_option maxHeartbeats 2000000 in
theorem or2_any {w : World} {b : Nat} {u v : Int} (h0 : w.cell? ⟨b, 0, none⟩ = some (.int .i64 u)) (h1 : w.cell? ⟨b, 1, none⟩ = some (.int .i64 v)) :
    Calls Try.prog 77 #[.slice (some ⟨b, 0, none⟩) 2 2] w fun e w' => e = .returned (.int .i64 (orI u v)) ∧ w' = w := by
  by_cases hu : u = 0
  · subst hu
    have ER : Hid (orI 0 v = v) := rfl
    by_cases hv : v = 0
    · subst hv
      go_enter Try.func77, Try.ntmps77
      go_wp2_with fail
      refine wp_loop_rounds 3 ?_
      rw [rounds_succ]
      go_wp2
      rw [rounds_succ]
      go_wp2
      rw [rounds_succ]
      go_wp2
      go_ret
      exact ⟨rfl, rfl⟩
    · have hv' : (v != 0) = true := by simpa using hv
      go_enter Try.func77, Try.ntmps77
      go_wp2_with fail
      refine wp_loop_rounds 2 ?_
      rw [rounds_succ]
      go_wp2
      rw [rounds_succ]
      go_wp2
      go_ret
      exact ⟨rfl, rfl⟩
  · have hu' : (u != 0) = true := by simpa using hu
    have ER : Hid (orI u v = u) := by show _ = _; unfold orI; rw [if_neg hu]
    go_enter Try.func77, Try.ntmps77
    go_wp2_with fail
    refine wp_loop_rounds 1 ?_
    rw [rounds_succ]
    go_wp2
    go_ret
    exact ⟨by rw [ER.out]; rfl, rfl⟩
end Go.Proofs.Ytdogibjgogcdkal.gr
namespace Go.Proofs.Ytdogibjgogcdkal.region
open Go

theorem count_set (l : Array Bool) (i : Nat) (h : l.getD i true = false) : (l.setIfInBounds i true).toList.count false + 1 = l.toList.count false := by
  have hi : i < l.size := by
    rcases Nat.lt_or_ge i l.size with h' | h'
    · exact h'
    · simp [Array.getD, Nat.not_lt.2 h'] at h
  have he : l.toList[i]'(by simpa using hi) = false := by
    simpa [Array.getD, hi] using h
  rw [Array.toList_setIfInBounds, List.count_set (by simpa using hi)]
  have hc : 0 < l.toList.count false := List.count_pos_iff.2 (by rw [← he]; exact List.getElem_mem _)
  simp [he]
  have hc' : 0 < l.count false := by simpa using hc
  omega

theorem wpAny_inv {P : Program} {md : Region.Mode} {ops : Array Oper} {Q : Exit → Act → World → Prop} (I : Array Bool → Act → World → Prop)
    (fin : ∀ l a w, I l a w → Region.ready md ops l = [] → Q .normal a w)
    (stp : ∀ l a w i, I l a w → i ∈ Region.ready md ops l → wpOp P ops Q i (I (l.setIfInBounds i true)) a w) :
    ∀ (fuel : Nat) (l : Array Bool) (a : Act) (w : World), l.toList.count false ≤ fuel → I l a w → wpAny P md ops Q fuel l a w
  | 0, l, a, w, hc, h => by
    have e : Region.ready md ops l = [] := by
      rw [List.eq_nil_iff_forall_not_mem]
      intro i hi
      have := count_set l i (mem_ready.1 hi).1
      omega
    exact ⟨e, fin l a w h e⟩
  | fuel + 1, l, a, w, hc, h => by
    refine ⟨fun e => fin l a w h e, fun i hi => wpOp_mono (fun a' w' h' => ?_) (stp l a w i h hi)⟩
    have := count_set l i (mem_ready.1 hi).1
    exact wpAny_inv I fin stp fuel _ a' w' (by omega) h'

theorem wp_region_inv {P : Program} {id : Nat} {ops : Array Oper} {Q : Exit → Act → World → Prop} {a : Act} {w : World} (hm : P.follows .mixedOrders = true) (I : Array Bool → Act → World → Prop)
    (start : I (Array.replicate ops.size false) a w.drew)
    (fin : ∀ l a w, I l a w → Region.ready .any ops l = [] → Q .normal a w)
    (stp : ∀ l a w i, I l a w → i ∈ Region.ready .any ops l → wpOp P ops Q i (I (l.setIfInBounds i true)) a w) : (Code.region id ops true).wp P Q a w :=
  wp_region_any hm (wpAny_inv I fin stp _ _ _ _ (by simp) start)
end Go.Proofs.Ytdogibjgogcdkal.region
