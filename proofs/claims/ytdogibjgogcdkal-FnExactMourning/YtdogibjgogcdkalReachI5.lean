/-
  Chapter 7 as the program has it: Reached.
  Made from the template ReachI5.
-/
import Derived.Test.YtdogibjgogcdkalReachI4
import Derived.Test.YtdogibjgogcdkalReachD
import Derived.Test.YtdogibjgogcdkalGraphIGraphOk
import Derived.Test.YtdogibjgogcdkalCopied
import Derived.Maps.AppendAt
namespace Go.Proofs.Ytdogibjgogcdkal.gr
open Go.RowKit rows heads
set_option maxRecDepth 100000
set_option linter.unusedVariables false

/-- A row of numbers of the call's own, their type left open. -/
def OwnT (t : TypeId) (w : World) (base : Nat) (v : Value) (xs : List Int) : Prop := w.ownsRow base t 1 v xs.length (cellsOf xs)
theorem ownT_slice {t : TypeId} {w : World} {base : Nat} {v : Value} {xs : List Int} (h : OwnT t w base v xs) : ∃ a c, v = .slice a xs.length c := by
  obtain ⟨h0, ⟨h1, h2⟩ | ⟨g, cap, cur, h1, _⟩⟩ := h
  · exact ⟨none, 0, by rw [h1, h2]⟩
  · exact ⟨_, _, h1⟩
theorem ownT_empty {t : TypeId} {W : World} {base : Nat} (hb : base ≤ W.heap.size) : OwnT t (W.alloc (.cells #[] t)) base (.slice (some ⟨W.heap.size, 0, none⟩) 0 0) [] :=
  ⟨rfl, .inr ⟨W.heap.size, 0, #[], rfl, hb, heap_alloc_new W _, Nat.le_refl _, by decide, rfl, rfl⟩⟩
theorem cellsOf_app (xs ys : List Int) : cellsOf (xs ++ ys) = cellsOf xs ++ cellsOf ys := by simp [cellsOf]
/-- Behind 'list = append(list, x)'. -/
theorem app_num {t : TypeId} {W w1 : World} {base : Nat} {v v' : Value} {xs : List Int} {x : Int} {tmp : Obj} (h : OwnT t W base v xs)
    (hown : w1.ownsRow base t 1 v' (xs.length + 1) (cellsOf xs ++ [.int .i64 x])) (hg : (W.alloc tmp).grownBy w1 v.ownBlock) (hat : v'.ownBlock = v.ownBlock ∨ v'.ownBlock = some (W.alloc tmp).heap.size) :
    OwnT t w1 base v' (xs ++ [x]) ∧ Ch (blk v) W w1 ∧ ∀ k ∈ blk v', k ∈ blk v ∨ W.heap.size ≤ k := by
  refine ⟨?_, (ch_below ((Below.refl _ _).alloc (Nat.le_refl _) _)).trans (ch_grown hg), fun k hk => ?_⟩
  · unfold OwnT
    rw [List.length_append, cellsOf_app]
    exact hown
  · unfold blk at hk ⊢
    rcases hat with e | e
    · rw [e] at hk; exact .inl hk
    · rw [e] at hk
      simp at hk
      exact .inr (by omega)
theorem one_new (W : World) (t : TypeId) (x : Int) : ∀ j u, [Value.int .i64 x][j]? = some u → (W.alloc (.cells #[.int .i64 x] t)).cell? ((⟨W.heap.size, 0, none⟩ : Addr).add j) = some u := by
  intro j u h
  match j with
  | 0 =>
    simp at h
    subst h
    simp [Addr.add]
  | j + 1 => simp at h

set_option maxHeartbeats 8000000 in
theorem implReached {w : World} {o r m : Value} {ms : List MO} {G : Gr} (h : GraphAt w o r m ms G) (hs : gSize ms G ≤ 1048576) {xs : List Int} (hx : IsReached G xs) :
    Calls Try.prog 11 #[gv o r m G.next G.seed] w fun e w' => ∃ v, e = .returned v ∧ Own w' w.heap.size v xs ∧ Below w.heap.size w w' := by
  obtain ⟨a1, n1, c1, a2, n2, c2, a3, n3, c3, e1, e2, e3⟩ := graphAt_slices h
  subst e1 e2 e3
  have B : Below w.heap.size w (w.alloc (gb (.slice a1 n1 c1) (.slice a2 n2 c2) (.slice a3 n3 c3) G.next G.seed)) := (Below.refl _ w).alloc (Nat.le_refl _) _
  have T := five_new w 32 (.slice a1 n1 c1) (.slice a2 n2 c2) (.slice a3 n3 c3) (.int .i64 G.next) (.int .i64 G.seed)
  have GO := implGraphOk (graphAt_below h B) hs
  have HG : Hid _ := h
  have HB : Hid _ := B
  have HT : Hid _ := T
  have HX : Hid _ := hx
  clear h B T hx
  go_enter Try.func11, Try.ntmps11
  go_wp2_with fail
  generalize hX : (w.alloc (gb (.slice a1 n1 c1) (.slice a2 n2 c2) (.slice a3 n3 c3) G.next G.seed)) = X at *
  clear hX
  refine GO.mono ?_
  rintro e w1 ⟨rfl, b1⟩
  have B1 := HB.out.trans (b1.mono HB.out.size)
  have T1 := five_below HT.out b1
  have HB1 : Hid _ := B1
  have HT1 : Hid _ := T1
  clear GO HB HT b1
  cases ok : gOk G
  · have hxs : xs = [] := by
      rcases HX.out with ⟨_, e⟩ | ⟨e, _⟩
      · exact e
      · rw [ok] at e; cases e
    subst hxs
    clear B1 T1 HG HX
    go_wp2
    go_ret
    exact ⟨_, rfl, World.ownsRow_nil _ _ _ _, HB1.out⟩
  · have hxs : IsR G xs := by
      rcases HX.out with ⟨e, _⟩ | ⟨_, e⟩
      · rw [ok] at e; cases e
      · exact e
    have HR : Hid _ := hxs
    have N1 : Below w1.heap.size w1 (w1.alloc (.cells #[] 2)) := (Below.refl _ _).alloc (Nat.le_refl _) _
    have B2 := B1.trans (N1.mono B1.size)
    have T2 := five_below T1 N1
    obtain ⟨z0, z1, z2, z3, z4, _⟩ := five_cells T2
    have RP := reachedPlaces_any (graphAt_below HG.out B2) ok
    have HOW : Hid (OwnT 2 (w1.alloc (.cells #[] 2)) w.heap.size (.slice (some ⟨w1.heap.size, 0, none⟩) 0 0) []) := ownT_empty B1.size
    have HB2 : Hid _ := B2
    have HT2 : Hid _ := T2
    have pE : w1.heap.size < (w1.alloc (.cells #[] 2)).heap.size := by simp
    have hwE : w.heap.size < w1.heap.size := lt_of_block T1
    have hlen := graphAt_len HG.out
    have h200 := (gOk_len ok).1
    clear B1 T1 HB1 HT1 N1 B2 T2 HX hxs
    go_wp2_with fail
    generalize hX2 : (w1.alloc (.cells #[] 2)) = X2 at *
    generalize hE : w1.heap.size = E at *
    clear hX2 hE
    refine RP.mono ?_
    rintro e w3 ⟨Bi, is, rfl, hBi, hlo, hil, hrc, b3⟩
    have B3 := HB2.out.trans (b3.mono HB2.out.size)
    have HE3 : Hid (Five w3 w.heap.size 32 (.slice a1 n1 c1) (.slice a2 n2 c2) (.slice a3 n3 c3) (.int .i64 G.next) (.int .i64 G.seed)) := five_below HT2.out b3
    have HO3 : Hid (OwnT 2 w3 w.heap.size (.slice (some ⟨E, 0, none⟩) 0 0) []) := row_below HOW.out b3
    have hpk := isR_eq HR.out (f := fun p => is.getD p false) hrc
    have HPK : Hid _ := hpk
    have HBI : Hid _ := hBi
    have HB3 : Hid _ := B3
    have hEB : E < Bi := by omega
    have hwB : w.heap.size < Bi := by have := lt_of_block HT2.out; omega
    obtain ⟨i0, hi0, hz0, hz1, hz2⟩ := info_parts info
    have HI0 : Hid _ := hi0
    have HZ0 : Hid _ := hz0
    have HZ1 : Hid _ := hz1
    have HZ2 : Hid _ := hz2
    clear RP HB2 HT2 HOW HR hpk hBi b3 B3 hrc z0 z1 z2 z3 z4 hi0 hz0 hz1 hz2
    obtain ⟨ao, co, eo, _⟩ := HG.out.2.1.1
    injection eo with e1 e2 e3
    subst e1 e2 e3
    go_wp2_with fail
    go_loopw [3, 13] (fun v p wr => ∃ (k : Nat) (vv : Value), vv = v ∧ k ≤ ms.length ∧ p = .int .i64 k ∧ OwnT 2 wr w.heap.size vv (pick G.objs (fun p => is.getD p false) k) ∧ (∀ b ∈ blk vv, b ≠ Bi ∧ w.heap.size < b) ∧ wr.heap[Bi]? = some (.cells (is.map Value.bool).toArray 4 (0, 0)) ∧ Five wr w.heap.size 32 (.slice a1 ms.length c1) (.slice a2 n2 c2) (.slice a3 n3 c3) (.int .i64 G.next) (.int .i64 G.seed) ∧ Below w.heap.size w wr) (fun _ p _ => ms.length - (intOf p).toNat)
    case atStart => exact ⟨0, _, rfl, Nat.zero_le _, rfl, HO3.out, fun b hb => (by simp [blk, Value.ownBlock] at hb; omega), HBI.out, HE3.out, HB3.out⟩
    case round =>
      obtain ⟨k, vv, rfl, hk, rfl, hO, hbk, hBi, hT, hB⟩ := hrel
      have HO : Hid _ := hO
      have HBK : Hid _ := hbk
      have HBI : Hid _ := hBi
      have HT : Hid _ := hT
      have HB : Hid _ := hB
      by_cases hlt : k < ms.length
      · have cB : wr.cell? ⟨Bi, k, none⟩ = some (.bool (is.getD k false)) := cell_of hBi (by
          rw [List.getElem?_map, List.getD_eq_getElem?_getD, List.getElem?_eq_getElem (by omega)]
          rfl)
        have HNX := pick_next G.objs (fun p => is.getD p false) k
        cases d : is.getD k false
        · rw [d] at cB HNX
          have hnx : pick G.objs (fun p => is.getD p false) (k + 1) = pick G.objs (fun p => is.getD p false) k := by rw [HNX]; simp
          have HNX2 : Hid _ := hnx
          clear hO hbk hBi hT hB HNX hnx d
          go_wp2
          exact ⟨⟨k + 1, vv, by trivial, by omega, by go_num, by rw [HNX2.out]; exact HO.out, HBK.out, HBI.out, HT.out, HB.out⟩, by simp [intOf]; omega⟩
        · rw [d] at cB HNX
          simp only [if_true] at HNX
          obtain ⟨y0, _⟩ := five_cells hT
          obtain ⟨ao, co, eo, _, _, _, hco⟩ := orowAt_below HG.out.2.1.1 hB
          injection eo with e1 e2 e3
          subst e1 e3
          obtain ⟨b, off, rfl, hb, hcc⟩ := hco (by omega)
          have x0 := (hcc k hlt).1
          have hid : (ms.getD k moD).id = (G.objs.getD k obD).id := congrArg Ob.id (graphAt_get HG.out k)
          rw [hid] at x0
          have HNX2 : Hid _ := HNX
          have hpl := len_pick G.objs (fun p => is.getD p false) k
          obtain ⟨va, vc, hvv⟩ := ownT_slice hO
          subst hvv
          have HOA : Hid (OwnT 2 (wr.alloc (.cells #[.int .i64 (G.objs.getD k obD).id] 2)) w.heap.size _ _) := row_below hO ((Below.refl _ _).alloc (Nat.le_refl _) _)
          have hba : w.heap.size ≤ (wr.alloc (.cells #[.int .i64 (G.objs.getD k obD).id] 2)).heap.size := by have := hB.size; simp; omega
          have HNW : Hid _ := one_new wr 2 (G.objs.getD k obD).id
          have HSTEP : Hid (∀ (v' : Value) (w5 : World), w5.ownsRow w.heap.size 2 1 v' ((pick G.objs (fun p => is.getD p false) k).length + 1) (cellsOf (pick G.objs (fun p => is.getD p false) k) ++ [.int .i64 (G.objs.getD k obD).id]) → (wr.alloc (.cells #[.int .i64 (G.objs.getD k obD).id] 2)).grownBy w5 (Value.slice va (pick G.objs (fun p => is.getD p false) k).length vc).ownBlock → (v'.ownBlock = (Value.slice va (pick G.objs (fun p => is.getD p false) k).length vc).ownBlock ∨ v'.ownBlock = some (wr.alloc (.cells #[.int .i64 (G.objs.getD k obD).id] 2)).heap.size) → (∃ a n c, v' = .slice a n c) ∧ OwnT 2 w5 w.heap.size v' (pick G.objs (fun p => is.getD p false) (k + 1)) ∧ (∀ b ∈ blk v', b ≠ Bi ∧ w.heap.size < b) ∧ w5.heap[Bi]? = some (.cells (is.map Value.bool).toArray 4 (0, 0)) ∧ Five w5 w.heap.size 32 (.slice (some ⟨b, off, none⟩) ms.length c1) (.slice a2 n2 c2) (.slice a3 n3 c3) (.int .i64 G.next) (.int .i64 G.seed) ∧ Below w.heap.size w w5) := fun v' w5 hown hgrow hat => by
            obtain ⟨on, ch, nb⟩ := app_num hO hown hgrow hat
            rw [HNX]
            obtain ⟨a', c', e'⟩ := ownT_slice on
            have lB := lt_of_block hBi
            have lw := lt_of_block hT
            refine ⟨⟨_, _, _, e'⟩, on, fun b hb => ?_, (ch.block Bi lB (fun e => (hbk Bi e).1 rfl)).trans hBi, five_ch hT ch (fun e => Nat.lt_irrefl _ (hbk _ e).2), hB.trans (below_ch ch hB.size fun b hb => by have := (hbk b hb).2; omega)⟩
            rcases nb b hb with e | e
            · exact hbk b e
            · omega
          clear hO hbk hBi hT hB HNX d hco hcc hid e2
          generalize (G.objs.getD k obD).id = x at *
          generalize hps : pick G.objs (fun p => is.getD p false) k = ps at *
          clear hps
          go_wp2_with (refine wpList_append_own_at _ rfl (.tmp 19) (.tmp 26) 27 rfl w.heap.size 2 i0 (.int .i64 0) 1 8 Try.underlying27 HI0.out HZ0.out HZ1.out HZ2.out rfl (by decide) _ ps.length (cellsOf ps) rfl HOA.out ⟨wr.heap.size, 0, none⟩ 1 1 [.int .i64 x] rfl rfl HNW.out (by simp [Value.oneCell']) (by unfold maxLen; omega) (by omega) hba ?_; intro v' w5 hown hgrow _ hat; obtain ⟨⟨va', vn', vc', rfl⟩, st⟩ := HSTEP.out v' w5 hown hgrow hat; have HST : Hid _ := st; clear st hown hgrow hat)
          exact ⟨⟨k + 1, _, rfl, by omega, by go_num, HST.out⟩, by simp [intOf]; omega⟩
      · have e : k = ms.length := by omega
        subst e
        have hfin : Own wr w.heap.size vv xs := by
          have := HO.out
          rw [hlen, ← HPK.out] at this
          exact this
        have HF : Hid _ := hfin
        clear hO hbk hBi hT hB hfin
        go_wp2
        go_ret
        exact ⟨_, rfl, HF.out, HB.out⟩
end Go.Proofs.Ytdogibjgogcdkal.gr
