/-
  'append([]int64{}, row...)': a copy of a row, nil or not, as a law for the walk. Chapter 7 as the program has it: Reached. Chapter 7: a round of mourning, and what falls in it. Chapter 7: a graph of the call's own whose rows are known: a slot made nil, objects left out. Chapter 7: an object and a ref in boxes of their own. Chapter 7 as the program has it: loosen.
-/
import Derived.Test.YtdogibjgogcdkacM1
import Derived.Laws.AppendOwnNone
import Derived.Test.YtdogibjgogcdkacM9
import Derived.Test.YtdogibjgogcdkacM7
import Derived.Test.YtdogibjgogcdkacM6
import Derived.Maps.AppendAt
import Derived.Test.YtdogibjgogcdkacM8
namespace Go.Proofs.Ytdogibjgogcdkac.rows
open Go.RowKit

/-- Behind 'append([]int64{}, row...)': a row of the call's own. -/
theorem copied_own {w w1 : World} {v' : Value} {xs : List Int} (hown : w1.ownsRow w.heap.size 2 1 v' (0 + xs.length) ([] ++ cellsOf xs)) (hgrow : (w.alloc (.cells #[] 2)).grownBy w1 (some w.heap.size))
    (hnn : v' = .slice none 0 0 ↔ Value.slice (some ⟨w.heap.size, 0, none⟩) 0 0 = .slice none 0 0 ∧ xs.length = 0) :
    ∃ g cap, v' = .slice (some ⟨g, 0, none⟩) xs.length cap ∧ w.heap.size ≤ g ∧ w1.ownsRow w.heap.size 2 1 (.slice (some ⟨g, 0, none⟩) xs.length cap) xs.length (cellsOf xs) ∧ Below w.heap.size w w1 := by
  rw [Nat.zero_add, List.nil_append] at hown
  have h' := hown
  obtain ⟨_, ⟨rfl, _⟩ | ⟨g, cap, cur, rfl, hg, _⟩⟩ := hown
  · exact absurd (hnn.1 rfl).1 (by simp)
  · exact ⟨g, cap, rfl, hg, h', ((Below.refl _ _).alloc (Nat.le_refl _) _).grown hgrow (by simp) (fun k e => by cases e; exact Nat.le_refl _)⟩

theorem own_row {w : World} {base n : Nat} {v : Value} {xs : List Int} (h : w.ownsRow base 2 1 v n (cellsOf xs)) (hn : xs.length = n) : Own w base v xs := by
  subst hn; exact h

/-- One law for every list: the operation reads an empty slice just made (the last block) and the list. -/
theorem wpList_copied {w : World} {ops : Array Oper} {rest : List Oper} {o : Oper} {act : Act} {Q : Exit → Act → World → Prop} {a : Option Addr} {cap : Nat} {xs : List Int}
    (h : IntsAt w (.slice a xs.length cap) xs) (hl : xs.length ≤ 1048576) (hgd : o.guard = none) (s x : Operand) (ho : o.op = .call { callee := .builtin .append, args := #[s, x], argTypes := #[32, 32] })
    (hs : act.eval s = .slice (some ⟨w.heap.size, 0, none⟩) 0 0) (hx : act.eval x = .slice a xs.length cap)
    (hK : ∀ g cap' w1, w.heap.size ≤ g → w1.ownsRow w.heap.size 2 1 (.slice (some ⟨g, 0, none⟩) xs.length cap') xs.length (cellsOf xs) → Below w.heap.size w w1 → wpList Try.prog ops Q rest (act.put o.dst (.slice (some ⟨g, 0, none⟩) xs.length cap')) w1) :
    wpList Try.prog ops Q (o :: rest) act (w.alloc (.cells #[] 2)) := by
  obtain ⟨i0, hi, hz0, hz1, hz2⟩ := info_parts info
  have OWN : (w.alloc (.cells #[] 2)).ownsRow w.heap.size 2 1 (.slice (some ⟨w.heap.size, 0, none⟩) 0 0) 0 [] := ⟨rfl, .inr ⟨w.heap.size, 0, #[], rfl, Nat.le_refl _, heap_alloc_new w _, Nat.le_refl _, by decide, rfl, rfl⟩⟩
  have h' := h
  obtain ⟨a', cap', e, hlc, hcm, hnil, _⟩ := h
  injection e with e1 e2 e3
  subst e1 e3
  cases a with
  | none =>
    have hcap := hnil rfl
    have e : xs = [] := List.eq_nil_of_length_eq_zero (by omega)
    subst e hcap
    refine wpList_append_own_none hgd s x 32 ho _ 2 i0 1 Try.underlying32 hi _ 0 [] hs OWN hx ?_
    exact hK _ _ _ (Nat.le_refl _) OWN ((Below.refl _ _).alloc (Nat.le_refl _) _)
  | some ad =>
    refine wpList_append_own _ hgd s x 32 ho _ 2 i0 (.int .i64 0) 1 8 Try.underlying32 hi hz0 hz1 hz2 rfl (by decide) _ 0 [] hs OWN ad xs.length cap (cellsOf xs) hx (by simp) (ints_news (intsAt_below h' ((Below.refl _ _).alloc (Nat.le_refl _) _))) (ints_oneCell _ _) (by unfold maxLen; omega) (by omega) (by simp) ?_
    intro v' w1 hown hgrow hnn
    obtain ⟨g, cap', rfl, hg, hO, hB⟩ := copied_own hown hgrow hnn
    exact hK g cap' w1 hg hO hB
end Go.Proofs.Ytdogibjgogcdkac.rows
namespace Go.Proofs.Ytdogibjgogcdkac.gr
open Go.RowKit rows heads
set_option maxRecDepth 100000
set_option linter.unusedVariables false

/-- A row of numbers of the call's own, their type left open. -/
def OwnT (t : TypeId) (w : World) (base : Nat) (v : Value) (xs : List Int) : Prop := w.ownsRow base t 1 v xs.length (cellsOf xs)
theorem ownT_slice {t : TypeId} {w : World} {base : Nat} {v : Value} {xs : List Int} (h : OwnT t w base v xs) : ∃ a c, v = .slice a xs.length c := by
  obtain ⟨h0, ⟨h1, h2⟩ | ⟨g, cap, cur, h1, _⟩⟩ := h
  · exact ⟨none, 0, by rw [h1, h2]⟩
  · exact ⟨_, _, h1⟩
theorem ownT_empty {t : TypeId} {W : World} {base : Nat} (hb : base ≤ W.heap.size) : OwnT t (W.alloc (.cells #[] t)) base (.slice (some ⟨W.heap.size, 0, none⟩) 0 0) [] :=
  ⟨rfl, .inr ⟨W.heap.size, 0, #[], rfl, hb, heap_alloc_new W _, Nat.le_refl _, by decide, rfl, rfl⟩⟩
theorem cellsOf_app (xs ys : List Int) : cellsOf (xs ++ ys) = cellsOf xs ++ cellsOf ys := by simp [cellsOf]
/-- Behind 'list = append(list, x)'. -/
theorem app_num {t : TypeId} {W w1 : World} {base : Nat} {v v' : Value} {xs : List Int} {x : Int} {tmp : Obj} (h : OwnT t W base v xs)
    (hown : w1.ownsRow base t 1 v' (xs.length + 1) (cellsOf xs ++ [.int .i64 x])) (hg : (W.alloc tmp).grownBy w1 v.ownBlock) (hat : v'.ownBlock = v.ownBlock ∨ v'.ownBlock = some (W.alloc tmp).heap.size) :
    OwnT t w1 base v' (xs ++ [x]) ∧ Ch (blk v) W w1 ∧ ∀ k ∈ blk v', k ∈ blk v ∨ W.heap.size ≤ k := by
  refine ⟨?_, (ch_below ((Below.refl _ _).alloc (Nat.le_refl _) _)).trans (ch_grown hg), fun k hk => ?_⟩
  · unfold OwnT
    rw [List.length_append, cellsOf_app]
    exact hown
  · unfold blk at hk ⊢
    rcases hat with e | e
    · rw [e] at hk; exact .inl hk
    · rw [e] at hk
      simp at hk
      exact .inr (by omega)
theorem one_new (W : World) (t : TypeId) (x : Int) : ∀ j u, [Value.int .i64 x][j]? = some u → (W.alloc (.cells #[.int .i64 x] t)).cell? ((⟨W.heap.size, 0, none⟩ : Addr).add j) = some u := by
  intro j u h
  match j with
  | 0 =>
    simp at h
    subst h
    simp [Addr.add]
  | j + 1 => simp at h

set_option maxHeartbeats 8000000 in
theorem implReached {w : World} {o r m : Value} {ms : List MO} {G : Gr} (h : GraphAt w o r m ms G) (hs : gSize ms G ≤ 1048576) {xs : List Int} (hx : IsReached G xs) :
    Calls Try.prog 15 #[gv o r m G.next G.seed] w fun e w' => ∃ v, e = .returned v ∧ Own w' w.heap.size v xs ∧ Below w.heap.size w w' := by
  obtain ⟨a1, n1, c1, a2, n2, c2, a3, n3, c3, e1, e2, e3⟩ := graphAt_slices h
  subst e1 e2 e3
  have B : Below w.heap.size w (w.alloc (gb (.slice a1 n1 c1) (.slice a2 n2 c2) (.slice a3 n3 c3) G.next G.seed)) := (Below.refl _ w).alloc (Nat.le_refl _) _
  have T := five_new w 27 (.slice a1 n1 c1) (.slice a2 n2 c2) (.slice a3 n3 c3) (.int .i64 G.next) (.int .i64 G.seed)
  have GO := implGraphOk (graphAt_below h B) hs
  have HG : Hid _ := h
  have HB : Hid _ := B
  have HT : Hid _ := T
  have HX : Hid _ := hx
  clear h B T hx
  go_enter Try.func15, Try.ntmps15
  go_wp2_with fail
  generalize hX : (w.alloc (gb (.slice a1 n1 c1) (.slice a2 n2 c2) (.slice a3 n3 c3) G.next G.seed)) = X at *
  clear hX
  refine GO.mono ?_
  rintro e w1 ⟨rfl, b1⟩
  have B1 := HB.out.trans (b1.mono HB.out.size)
  have T1 := five_below HT.out b1
  have HB1 : Hid _ := B1
  have HT1 : Hid _ := T1
  clear GO HB HT b1
  cases ok : gOk G
  · have hxs : xs = [] := by
      rcases HX.out with ⟨_, e⟩ | ⟨e, _⟩
      · exact e
      · rw [ok] at e; cases e
    subst hxs
    clear B1 T1 HG HX
    go_wp2
    go_ret
    exact ⟨_, rfl, World.ownsRow_nil _ _ _ _, HB1.out⟩
  · have hxs : IsR G xs := by
      rcases HX.out with ⟨e, _⟩ | ⟨_, e⟩
      · rw [ok] at e; cases e
      · exact e
    have HR : Hid _ := hxs
    have N1 : Below w1.heap.size w1 (w1.alloc (.cells #[] 2)) := (Below.refl _ _).alloc (Nat.le_refl _) _
    have B2 := B1.trans (N1.mono B1.size)
    have T2 := five_below T1 N1
    obtain ⟨z0, z1, z2, z3, z4, _⟩ := five_cells T2
    have RP := reachedPlaces_any (graphAt_below HG.out B2) ok
    have HOW : Hid (OwnT 2 (w1.alloc (.cells #[] 2)) w.heap.size (.slice (some ⟨w1.heap.size, 0, none⟩) 0 0) []) := ownT_empty B1.size
    have HB2 : Hid _ := B2
    have HT2 : Hid _ := T2
    have pE : w1.heap.size < (w1.alloc (.cells #[] 2)).heap.size := by simp
    have hwE : w.heap.size < w1.heap.size := lt_of_block T1
    have hlen := graphAt_len HG.out
    have h200 := (gOk_len ok).1
    clear B1 T1 HB1 HT1 N1 B2 T2 HX hxs
    go_wp2_with fail
    generalize hX2 : (w1.alloc (.cells #[] 2)) = X2 at *
    generalize hE : w1.heap.size = E at *
    clear hX2 hE
    refine RP.mono ?_
    rintro e w3 ⟨Bi, is, rfl, hBi, hlo, hil, hrc, b3⟩
    have B3 := HB2.out.trans (b3.mono HB2.out.size)
    have HE3 : Hid (Five w3 w.heap.size 27 (.slice a1 n1 c1) (.slice a2 n2 c2) (.slice a3 n3 c3) (.int .i64 G.next) (.int .i64 G.seed)) := five_below HT2.out b3
    have HO3 : Hid (OwnT 2 w3 w.heap.size (.slice (some ⟨E, 0, none⟩) 0 0) []) := row_below HOW.out b3
    have hpk := isR_eq HR.out (f := fun p => is.getD p false) hrc
    have HPK : Hid _ := hpk
    have HBI : Hid _ := hBi
    have HB3 : Hid _ := B3
    have hEB : E < Bi := by omega
    have hwB : w.heap.size < Bi := by have := lt_of_block HT2.out; omega
    obtain ⟨i0, hi0, hz0, hz1, hz2⟩ := info_parts info
    have HI0 : Hid _ := hi0
    have HZ0 : Hid _ := hz0
    have HZ1 : Hid _ := hz1
    have HZ2 : Hid _ := hz2
    clear RP HB2 HT2 HOW HR hpk hBi b3 B3 hrc z0 z1 z2 z3 z4 hi0 hz0 hz1 hz2
    obtain ⟨ao, co, eo, _⟩ := HG.out.2.1.1
    injection eo with e1 e2 e3
    subst e1 e2 e3
    go_wp2_with fail
    go_loopw [3, 13] (fun v p wr => ∃ (k : Nat) (vv : Value), vv = v ∧ k ≤ ms.length ∧ p = .int .i64 k ∧ OwnT 2 wr w.heap.size vv (pick G.objs (fun p => is.getD p false) k) ∧ (∀ b ∈ blk vv, b ≠ Bi ∧ w.heap.size < b) ∧ wr.heap[Bi]? = some (.cells (is.map Value.bool).toArray 4 (0, 0)) ∧ Five wr w.heap.size 27 (.slice a1 ms.length c1) (.slice a2 n2 c2) (.slice a3 n3 c3) (.int .i64 G.next) (.int .i64 G.seed) ∧ Below w.heap.size w wr) (fun _ p _ => ms.length - (intOf p).toNat)
    case atStart => exact ⟨0, _, rfl, Nat.zero_le _, rfl, HO3.out, fun b hb => (by simp [blk, Value.ownBlock] at hb; omega), HBI.out, HE3.out, HB3.out⟩
    case round =>
      obtain ⟨k, vv, rfl, hk, rfl, hO, hbk, hBi, hT, hB⟩ := hrel
      have HO : Hid _ := hO
      have HBK : Hid _ := hbk
      have HBI : Hid _ := hBi
      have HT : Hid _ := hT
      have HB : Hid _ := hB
      by_cases hlt : k < ms.length
      · have cB : wr.cell? ⟨Bi, k, none⟩ = some (.bool (is.getD k false)) := cell_of hBi (by
          rw [List.getElem?_map, List.getD_eq_getElem?_getD, List.getElem?_eq_getElem (by omega)]
          rfl)
        have HNX := pick_next G.objs (fun p => is.getD p false) k
        cases d : is.getD k false
        · rw [d] at cB HNX
          have hnx : pick G.objs (fun p => is.getD p false) (k + 1) = pick G.objs (fun p => is.getD p false) k := by rw [HNX]; simp
          have HNX2 : Hid _ := hnx
          clear hO hbk hBi hT hB HNX hnx d
          go_wp2
          exact ⟨⟨k + 1, vv, by trivial, by omega, by go_num, by rw [HNX2.out]; exact HO.out, HBK.out, HBI.out, HT.out, HB.out⟩, by simp [intOf]; omega⟩
        · rw [d] at cB HNX
          simp only [if_true] at HNX
          obtain ⟨y0, _⟩ := five_cells hT
          obtain ⟨ao, co, eo, _, _, _, hco⟩ := orowAt_below HG.out.2.1.1 hB
          injection eo with e1 e2 e3
          subst e1 e3
          obtain ⟨b, off, rfl, hb, hcc⟩ := hco (by omega)
          have x0 := (hcc k hlt).1
          have hid : (ms.getD k moD).id = (G.objs.getD k obD).id := congrArg Ob.id (graphAt_get HG.out k)
          rw [hid] at x0
          have HNX2 : Hid _ := HNX
          have hpl := len_pick G.objs (fun p => is.getD p false) k
          obtain ⟨va, vc, hvv⟩ := ownT_slice hO
          subst hvv
          have HOA : Hid (OwnT 2 (wr.alloc (.cells #[.int .i64 (G.objs.getD k obD).id] 2)) w.heap.size _ _) := row_below hO ((Below.refl _ _).alloc (Nat.le_refl _) _)
          have hba : w.heap.size ≤ (wr.alloc (.cells #[.int .i64 (G.objs.getD k obD).id] 2)).heap.size := by have := hB.size; simp; omega
          have HNW : Hid _ := one_new wr 2 (G.objs.getD k obD).id
          have HSTEP : Hid (∀ (v' : Value) (w5 : World), w5.ownsRow w.heap.size 2 1 v' ((pick G.objs (fun p => is.getD p false) k).length + 1) (cellsOf (pick G.objs (fun p => is.getD p false) k) ++ [.int .i64 (G.objs.getD k obD).id]) → (wr.alloc (.cells #[.int .i64 (G.objs.getD k obD).id] 2)).grownBy w5 (Value.slice va (pick G.objs (fun p => is.getD p false) k).length vc).ownBlock → (v'.ownBlock = (Value.slice va (pick G.objs (fun p => is.getD p false) k).length vc).ownBlock ∨ v'.ownBlock = some (wr.alloc (.cells #[.int .i64 (G.objs.getD k obD).id] 2)).heap.size) → (∃ a n c, v' = .slice a n c) ∧ OwnT 2 w5 w.heap.size v' (pick G.objs (fun p => is.getD p false) (k + 1)) ∧ (∀ b ∈ blk v', b ≠ Bi ∧ w.heap.size < b) ∧ w5.heap[Bi]? = some (.cells (is.map Value.bool).toArray 4 (0, 0)) ∧ Five w5 w.heap.size 27 (.slice (some ⟨b, off, none⟩) ms.length c1) (.slice a2 n2 c2) (.slice a3 n3 c3) (.int .i64 G.next) (.int .i64 G.seed) ∧ Below w.heap.size w w5) := fun v' w5 hown hgrow hat => by
            obtain ⟨on, ch, nb⟩ := app_num hO hown hgrow hat
            rw [HNX]
            obtain ⟨a', c', e'⟩ := ownT_slice on
            have lB := lt_of_block hBi
            have lw := lt_of_block hT
            refine ⟨⟨_, _, _, e'⟩, on, fun b hb => ?_, (ch.block Bi lB (fun e => (hbk Bi e).1 rfl)).trans hBi, five_ch hT ch (fun e => Nat.lt_irrefl _ (hbk _ e).2), hB.trans (below_ch ch hB.size fun b hb => by have := (hbk b hb).2; omega)⟩
            rcases nb b hb with e | e
            · exact hbk b e
            · omega
          clear hO hbk hBi hT hB HNX d hco hcc hid e2
          generalize (G.objs.getD k obD).id = x at *
          generalize hps : pick G.objs (fun p => is.getD p false) k = ps at *
          clear hps
          go_wp2_with (refine wpList_append_own_at _ rfl (.tmp 19) (.tmp 26) 32 rfl w.heap.size 2 i0 (.int .i64 0) 1 8 Try.underlying32 HI0.out HZ0.out HZ1.out HZ2.out rfl (by decide) _ ps.length (cellsOf ps) rfl HOA.out ⟨wr.heap.size, 0, none⟩ 1 1 [.int .i64 x] rfl rfl HNW.out (by simp [Value.oneCell']) (by unfold maxLen; omega) (by omega) hba ?_; intro v' w5 hown hgrow _ hat; obtain ⟨⟨va', vn', vc', rfl⟩, st⟩ := HSTEP.out v' w5 hown hgrow hat; have HST : Hid _ := st; clear st hown hgrow hat)
          exact ⟨⟨k + 1, _, rfl, by omega, by go_num, HST.out⟩, by simp [intOf]; omega⟩
      · have e : k = ms.length := by omega
        subst e
        have hfin : Own wr w.heap.size vv xs := by
          have := HO.out
          rw [hlen, ← HPK.out] at this
          exact this
        have HF : Hid _ := hfin
        clear hO hbk hBi hT hB hfin
        go_wp2
        go_ret
        exact ⟨_, rfl, HF.out, HB.out⟩
end Go.Proofs.Ytdogibjgogcdkac.gr
namespace Go.Proofs.Ytdogibjgogcdkac.gr
open Go.RowKit rows heads
set_option maxRecDepth 100000

theorem heldA_ch {w w' : World} {base P : Nat} {G : Gr} {S : List Nat} (h : HeldA w base P G S) (hb : Below w.heap.size w w') : HeldA w' base P G S := by
  obtain ⟨o, r, m, ms, T, O, N, hb', HS⟩ := h
  exact ⟨o, r, m, ms, five_below T hb, ownG_below O hb, N, hb', HS⟩
theorem mournR_snoc (G : Gr) {ps : List Nat} {k : Nat} (hk : k < ps.length) : mournR G (ps.take (k + 1)) = mourn1 (mournR G (ps.take k)) (ps.getD k 0) := by
  unfold mournR
  rw [List.take_add_one, List.foldl_append, List.getElem?_eq_getElem hk, List.getD_eq_getElem?_getD, List.getElem?_eq_getElem hk]
  rfl
theorem mournR_len : ∀ (ps : List Nat) (G : Gr), (mournR G ps).objs.length = G.objs.length
  | [], _ => rfl
  | p :: ps, G => (mournR_len ps (mourn1 G p)).trans (mourn1_len G p)
theorem ch_cellR {S : List Nat} {w w' : World} {b k : Nat} {v : Value} (c : Ch S w w') (hn : b ∉ S) (h : w.cell? ⟨b, k, none⟩ = some v) : w'.cell? ⟨b, k, none⟩ = some v := by
  have := c.block b (cell_lt h) hn
  unfold World.cell? at h ⊢
  simp only at h ⊢
  rw [this]
  exact h
theorem eph_round {G : Gr} {ps : List Nat} (h : IsG G ps) (hn : ps ≠ []) : eph (mournR G ps).objs < eph G.objs := by
  cases ps with
  | nil => exact absurd rfl hn
  | cons p ps =>
    have hg : Grv G p := (h.2 p).1 (by simp)
    exact Nat.lt_of_le_of_lt (eph_mournR ps (mourn1 G p)) (eph_lt (grv_lt hg) hg.2.1)
theorem mourns_next {G R : Gr} {ps : List Nat} (h : Mourns G R) (hp : IsG G ps) (hn : ps ≠ []) : Mourns (mournR G ps) R := by
  obtain ⟨L, hL⟩ := h
  match L, hL with
  | [], hL => exact absurd (isG_unique hp hL.1) hn
  | qs :: L, hL =>
    have e := isG_unique hp hL.2.1
    subst e
    exact ⟨L, hL.2.2⟩

theorem heldA_plainQ {w : World} {base P : Nat} {G : Gr} {S : List Nat} (H : HeldA w base P G S) {p : Nat} (hi : p < G.objs.length) {q n c : Nat} (hq : w.cell? ⟨P, 0, none⟩ = some (.slice (some ⟨q, 0, none⟩) n c)) :
    (∃ u, w.cell? ⟨q, p * 5 + 2, none⟩ = some (.int .i64 u)) ∧ w.frozen? ⟨q, p * 5 + 2, none⟩ = false ∧ P ≠ q ∧ q ∉ S ∧ HeldA (w.setCell ⟨q, p * 5 + 2, none⟩ (.int .i64 0)) base P { G with objs := plainAt G.objs p } S ∧ Below base w (w.setCell ⟨q, p * 5 + 2, none⟩ (.int .i64 0)) := by
  obtain ⟨q0, c0, z0, _, zu, fz, nP, _, nS, HA, B⟩ := heldA_plain H hi
  rw [hq] at z0
  injection z0 with z0
  injection z0 with z0
  injection z0 with z0
  injection z0 with z0
  subst z0
  exact ⟨zu, fz, nP, nS, HA, B⟩
theorem mournR_ids : ∀ (ps : List Nat) (G : Gr), (mournR G ps).objs.map Ob.id = G.objs.map Ob.id
  | [], _ => rfl
  | p :: ps, G => (mournR_ids ps (mourn1 G p)).trans (plain_ids G.objs p)
theorem id_of_map {os os' : List Ob} (h : os.map Ob.id = os'.map Ob.id) (p : Nat) : (os.getD p obD).id = (os'.getD p obD).id := by
  have h1 : ∀ l : List Ob, (l.getD p obD).id = (l.map Ob.id).getD p obD.id := fun l => by
    rw [List.getD_eq_getElem?_getD, List.getD_eq_getElem?_getD, List.getElem?_map]
    cases l[p]? <;> rfl
  rw [h1, h1, h]
end Go.Proofs.Ytdogibjgogcdkac.gr
namespace Go.Proofs.Ytdogibjgogcdkac.gr
open Go.RowKit rows heads

/-- A graph of the call's own in the block P, its rows named, and none of its blocks is in S. -/
def HO (w : World) (base P : Nat) (o r m : Value) (ms : List MO) (G : Gr) (S : List Nat) : Prop := Five w P 27 o r m (.int .i64 G.next) (.int .i64 G.seed) ∧ OwnG w base o r m ms G ∧ P ∉ gblk o r m ms ∧ base ≤ P ∧ ∀ k ∈ S, k ≠ P ∧ k ∉ gblk o r m ms
theorem ho_held {w : World} {base P : Nat} {o r m : Value} {ms : List MO} {G : Gr} {S : List Nat} (h : HO w base P o r m ms G S) : Held w base P G := ⟨o, r, m, ms, h.1, h.2.1, h.2.2.1, h.2.2.2.1⟩
theorem ho_below {w w' : World} {base P : Nat} {o r m : Value} {ms : List MO} {G : Gr} {S : List Nat} (h : HO w base P o r m ms G S) (hb : Below w.heap.size w w') : HO w' base P o r m ms G S := ⟨five_below h.1 hb, ownG_below h.2.1 hb, h.2.2.1, h.2.2.2.1, h.2.2.2.2⟩
theorem ho_more {w : World} {base P : Nat} {o r m : Value} {ms : List MO} {G : Gr} {S : List Nat} (h : HO w base P o r m ms G S) {b : Nat} (hb : w.heap.size ≤ b) : HO w base P o r m ms G (b :: S) := by
  refine ⟨h.1, h.2.1, h.2.2.1, h.2.2.2.1, fun k hk => ?_⟩
  rcases List.mem_cons.1 hk with rfl | hk
  · have := lt_of_block h.1
    exact ⟨by omega, fun e => by have := (ownG_lt h.2.1 k e).2; omega⟩
  · exact h.2.2.2.2 k hk
theorem ho_less {w : World} {base P : Nat} {o r m : Value} {ms : List MO} {G : Gr} {S S' : List Nat} (h : HO w base P o r m ms G S) (hs : ∀ k ∈ S', k ∈ S) : HO w base P o r m ms G S' := ⟨h.1, h.2.1, h.2.2.1, h.2.2.2.1, fun k hk => h.2.2.2.2 k (hs k hk)⟩
theorem ho_objs {w : World} {base P : Nat} {o r m : Value} {ms : List MO} {G : Gr} {S : List Nat} {os : List Ob} (h : HO w base P o r m ms G S) (e : G.objs = os) : HO w base P o r m ms { G with objs := os } S := by
  subst e
  exact h
/-- One ref of one object is written. -/
theorem ho_setSlot {w : World} {base P : Nat} {o r m : Value} {ms : List MO} {G : Gr} {S : List Nat} (h : HO w base P o r m ms G S) {k : Nat} (hk : k < ms.length) {q n c : Nat} (hv : (ms.getD k moD).sv = .slice (some ⟨q, 0, none⟩) n c) (j : Nat) (e : Rf) :
    HO (put2 w q j e) base P o r m (ms.set k { ms.getD k moD with slots := (ms.getD k moD).slots.set j e }) { G with objs := setSlot G.objs k j e } S ∧ Below base w (put2 w q j e) ∧ (∀ x ∈ S, (put2 w q j e).heap[x]? = w.heap[x]?) ∧ base ≤ q := by
  obtain ⟨T, O, N, hb, HS⟩ := h
  have hq : q ∈ gblk o r m ms := by
    simp only [gblk, blks, List.mem_append, List.mem_flatMap]
    exact .inl (.inl (.inr ⟨_, mem_getD hk, by rw [hv]; simp [blk_some]⟩))
  have hqb : base ≤ q := (ownG_lt O q hq).1
  have C := put2_ch w q j e
  refine ⟨⟨five_ch T C (fun h => N ((List.mem_singleton.1 h) ▸ hq)), ownG_setSlot O hk hv j e, by unfold gblk; rw [blks_same]; exact N, hb, fun x hx => ?_⟩, ((Below.refl _ w).setCell (p := ⟨q, j * 2, none⟩) hqb _).setCell (p := ⟨q, j * 2 + 1, none⟩) hqb _, fun x hx => ?_, hqb⟩
  · refine ⟨(HS x hx).1, ?_⟩
    unfold gblk
    rw [blks_same]
    exact (HS x hx).2
  · have hne : x ≠ q := fun e => (HS x hx).2 (e ▸ hq)
    unfold put2
    rw [Below.heap_setCell _ _ _ x hne, Below.heap_setCell _ _ _ x hne]
theorem set_sv (ms : List MO) (k j : Nat) (s : List Rf) : ((ms.set k { ms.getD k moD with slots := s }).getD j moD).sv = (ms.getD j moD).sv := by
  rw [List.getD_eq_getElem?_getD, List.getElem?_set, List.getD_eq_getElem?_getD]
  by_cases e : k = j
  · subst e
    by_cases h : k < ms.length
    · simp [h, List.getD_eq_getElem?_getD]
    · simp [h]
  · rw [if_neg e, List.getD_eq_getElem?_getD]
theorem set_cells (ms : List MO) (k j : Nat) (s : List Rf) : ((ms.set k { ms.getD k moD with slots := s }).getD j moD).id = (ms.getD j moD).id ∧ ((ms.set k { ms.getD k moD with slots := s }).getD j moD).cls = (ms.getD j moD).cls ∧ ((ms.set k { ms.getD k moD with slots := s }).getD j moD).fmt = (ms.getD j moD).fmt ∧ ((ms.set k { ms.getD k moD with slots := s }).getD j moD).hash = (ms.getD j moD).hash := by
  rw [List.getD_eq_getElem?_getD, List.getElem?_set, List.getD_eq_getElem?_getD]
  by_cases e : k = j
  · subst e
    by_cases h : k < ms.length
    · simp [h, List.getD_eq_getElem?_getD]
    · simp [h]
  · rw [if_neg e, List.getD_eq_getElem?_getD]; exact ⟨rfl, rfl, rfl, rfl⟩
/-- The objects at the first k places that are kept. -/
def keptM (ms : List MO) (f : Nat → Bool) (k : Nat) : List MO := ((List.range k).filter f).map fun p => ms.getD p moD
theorem keptM_next (ms : List MO) (f : Nat → Bool) (k : Nat) : keptM ms f (k + 1) = keptM ms f k ++ if f k = true then [ms.getD k moD] else [] := by
  unfold keptM
  rw [List.range_succ, List.filter_append, List.map_append]
  cases h : f k <;> simp [h]
theorem keptM_len (ms : List MO) (f : Nat → Bool) (k : Nat) : (keptM ms f k).length ≤ k := by
  unfold keptM
  rw [List.length_map]
  exact Nat.le_trans (List.length_filter_le _ _) (by simp)
theorem keptM_abs (ms : List MO) (f : Nat → Bool) (k : Nat) : (keptM ms f k).map MO.abs = ((List.range k).filter f).map fun p => (ms.map MO.abs).getD p obD := by
  unfold keptM
  rw [List.map_map]
  apply List.map_congr_left
  intro p _
  exact (abs_getD ms p).symm
theorem keptM_sub (ms : List MO) (f : Nat → Bool) : List.Sublist (keptM ms f ms.length) ms := by
  unfold keptM
  have h : (List.range ms.length).map (fun p => ms.getD p moD) = ms := by
    apply List.ext_getElem
    · simp
    · intro i h1 h2
      simp [List.getD_eq_getElem?_getD, List.getElem?_eq_getElem h2]
  exact (List.filter_sublist.map _).trans (by rw [h]; exact List.Sublist.refl _)
theorem blks_sub {ms ms' : List MO} (h : List.Sublist ms' ms) : List.Sublist (blks ms') (blks ms) := by
  induction h with
  | slnil => exact List.Sublist.refl _
  | cons a h ih => exact ih.trans (by simp only [blks, List.flatMap_cons]; exact List.sublist_append_right _ _)
  | cons_cons a h ih => simp only [blks, List.flatMap_cons]; exact List.Sublist.append (List.Sublist.refl _) ih
/-- Objects left out, the others in a row of their own. -/
theorem ownG_sub {w : World} {base : Nat} {o r m v : Value} {ms ms' : List MO} {G : Gr} (h : OwnG w base o r m ms G) (hs : List.Sublist ms' ms) (hv : OwnRow w base v ms') (hn : ∀ x ∈ blk v, x ∉ blks ms ∧ x ∉ blk r ∧ x ∉ blk m) : OwnG w base v r m ms' { G with objs := ms'.map MO.abs } := by
  obtain ⟨h1, ⟨h2, h2b, h2c⟩, h3, h4, h5⟩ := h
  have hbs := blks_sub hs
  have hx : ((blks ms ++ blk r) ++ blk m).Nodup := by
    unfold gblk at h5
    rw [List.append_assoc, List.append_assoc] at h5
    have := (List.nodup_append.1 h5).2.1
    rw [← List.append_assoc] at this
    exact this
  have hy : ((blks ms' ++ blk r) ++ blk m).Nodup := hx.sublist (List.Sublist.append (List.Sublist.append hbs (List.Sublist.refl _)) (List.Sublist.refl _))
  refine ⟨rfl, ⟨hv, fun m' hm' => h2b m' (hs.subset hm'), ?_⟩, h3, h4, ?_⟩
  · refine List.nodup_append.2 ⟨blk_nodup v, ?_, fun a ha b hb e => ?_⟩
    · rw [List.append_assoc] at hy
      exact (List.nodup_append.1 hy).1
    · subst e
      exact (hn a ha).1 (hbs.subset hb)
  · unfold gblk
    rw [List.append_assoc, List.append_assoc]
    rw [List.append_assoc] at hy
    refine List.nodup_append.2 ⟨blk_nodup v, hy, fun a ha b hb e => ?_⟩
    subst e
    rcases List.mem_append.1 hb with hb | hb
    · exact (hn a ha).1 (hbs.subset hb)
    · rcases List.mem_append.1 hb with hb | hb
      · exact (hn a ha).2.1 hb
      · exact (hn a ha).2.2 hb
end Go.Proofs.Ytdogibjgogcdkac.gr
namespace Go.Proofs.Ytdogibjgogcdkac.gr
open Go.RowKit rows heads

theorem ob_cells {w : World} {b : Nat} {M : MO} (h : w.heap[b]? = some (ob M)) : w.cell? ⟨b, 0, none⟩ = some (.int .i64 M.id) ∧ w.cell? ⟨b, 1, none⟩ = some (.int .i64 M.cls) ∧ w.cell? ⟨b, 2, none⟩ = some (.int .i64 M.fmt) ∧ w.cell? ⟨b, 3, none⟩ = some (.int .i64 M.hash) ∧ w.cell? ⟨b, 4, none⟩ = some M.sv := ⟨by simp [World.cell?, h, ob], by simp [World.cell?, h, ob], by simp [World.cell?, h, ob], by simp [World.cell?, h, ob], by simp [World.cell?, h, ob]⟩
theorem slots_small {G : Gr} (h : Right G) {k : Nat} (hk : k < G.objs.length) : (G.objs.getD k obD).slots.length ≤ 1048576 := by
  have := (hok_true (obOk_lt (h.ob k hk)).2.2.2).2.1
  omega
end Go.Proofs.Ytdogibjgogcdkac.gr
namespace Go.Proofs.Ytdogibjgogcdkac.gr
open Go.RowKit rows heads
set_option maxRecDepth 100000
set_option linter.unusedVariables false

/-- What is told of the places, as it lies. -/
def KeptAt (w : World) (Bi : Nat) (is : List Bool) : Prop := w.heap[Bi]? = some (.cells (is.map Value.bool).toArray 4 (0, 0))
theorem kept_cell {w : World} {Bi : Nat} {is : List Bool} (h : KeptAt w Bi is) {p : Nat} (hp : p < is.length) : w.cell? ⟨Bi, p, none⟩ = some (.bool (is.getD p false)) := by
  unfold KeptAt at h
  simp [World.cell?, h, List.getD_eq_getElem?_getD, List.getElem?_eq_getElem hp]
theorem kept_below {w w' : World} {Bi : Nat} {is : List Bool} (h : KeptAt w Bi is) (hb : Below w.heap.size w w') : KeptAt w' Bi is := (hb.block Bi (lt_of_block h)).trans h
theorem rb_cells {w : World} {b : Nat} {e : Rf} (h : w.heap[b]? = some (rb e)) : w.cell? ⟨b, 0, none⟩ = some (.int .i64 e.1) ∧ w.cell? ⟨b, 1, none⟩ = some (.int .i64 e.2) := ⟨by simp [World.cell?, h, rb], by simp [World.cell?, h, rb]⟩
theorem led_loose {G : Gr} {f : Nat → Bool} {k i : Nat} (hk : k < G.objs.length) (e : Rf) (he : refOk G.objs e = true) :
    (ledB (looseI G.objs f k i) e && !(f (ledP (looseI G.objs f k i) e))) = looseB G.objs f e := by
  have hat : atI (looseI G.objs f k i) e.2 = atI G.objs e.2 := atI_ids (looseI_map hk) _
  unfold ledB ledP looseB
  rw [hat]
  by_cases h2 : e.1 = 2
  · rw [decide_eq_true (refOk_two he h2).1, Bool.and_true]
  · have : (e.1 == 2) = false := by simpa using h2
    rw [this]
    rfl

theorem rise_loose {G : Gr} (h : Right G) {f : Nat → Bool} {k i : Nat} (hk : k < G.objs.length) : Rise (looseI G.objs f k i) := fun a b hab hb => by
  rw [looseI_len] at hb
  rw [looseI_ids hk (by omega), looseI_ids hk hb]
  exact gOk_rise h.gOk a b hab hb

set_option maxHeartbeats 8000000 in
theorem loosen_any {W : World} {base P Bi : Nat} {o r m : Value} {ms : List MO} {X : Gr} {f : Nat → Bool} {is : List Bool} (H : HO W base P o r m ms X [Bi]) (hr : Right X) (K : KeptAt W Bi is) (hl : is.length = ms.length) (hf : ∀ p, is.getD p false = f p) :
    Calls Try.prog 30 #[.pointer (some ⟨P, 0, none⟩), .slice (some ⟨Bi, 0, none⟩) ms.length ms.length] W fun e w' => e = .returned (.tuple #[]) ∧ (∃ ms', HO w' base P o r m ms' { X with objs := looseK X.objs f X.objs.length } [Bi]) ∧ KeptAt w' Bi is ∧ Below base W w' := by
  have hbase := held_base (ho_held H)
  have hlen := own_len H.2.1
  have h200 : ms.length ≤ 200 := by rw [hlen]; exact (gOk_len hr.gOk).1
  obtain ⟨a1, n1, c1, a2, n2, c2, a3, n3, c3, e1, e2, e3⟩ := graphAt_slices (ownG_at H.2.1)
  subst e1 e2 e3
  have en : n1 = ms.length := by
    obtain ⟨a', c', e', _⟩ := (ownO_at H.2.1.2.1).1
    injection e'
  subst en
  have HH : Hid (∃ ms', ms'.length = ms.length ∧ HO W base P (.slice a1 ms.length c1) (.slice a2 n2 c2) (.slice a3 n3 c3) ms' { X with objs := looseK X.objs f 0 } [Bi]) := ⟨ms, rfl, ho_objs H (looseK_zero X.objs f).symm⟩
  obtain ⟨z0, _⟩ := five_cells H.1
  have HK : Hid _ := K
  have HF : Hid _ := hf
  have HR : Hid _ := hr
  have hx : ms.length = X.objs.length := hlen
  have HX : Hid _ := hx
  have HL : Hid _ := hl
  clear H K hf hr hlen hx hl
  go_enter Try.func30, Try.ntmps30
  go_wp2_with fail
  go_loopw [15] (fun i wz => ∃ (k : Nat) (ms' : List MO), k ≤ ms.length ∧ i = .int .i64 (k : Int) ∧ ms'.length = ms.length ∧ HO wz base P (.slice a1 ms.length c1) (.slice a2 n2 c2) (.slice a3 n3 c3) ms' { X with objs := looseK X.objs f k } [Bi] ∧ KeptAt wz Bi is ∧ Below base W wz) (fun i _ => ms.length - (intOf i).toNat)
  case atStart =>
    obtain ⟨ms', h1, h2⟩ := HH.out
    exact ⟨0, ms', Nat.zero_le _, rfl, h1, h2, HK.out, (Below.refl _ W).mono hbase⟩
  case round =>
    obtain ⟨k, ms', hk, rfl, hml, hH, hK, hB⟩ := hrel
    clear HH HK z0
    by_cases hlt : k < ms.length
    · have hlt' : (k : Int) < (ms.length : Int) := by omega
      have hkx : k < X.objs.length := by have := HX.out; omega
      obtain ⟨a', c', e', _, _, _, hco⟩ := (ownO_at hH.2.1.2.1).1
      injection e' with e1 e2 e3
      subst e1 e3
      obtain ⟨b, off, rfl, hb, hcc⟩ := hco (by omega)
      obtain ⟨x0, x1, x2, x3, x4⟩ := hcc k (by omega)
      have ck := kept_cell hK (p := k) (by have := HL.out; omega)
      rw [HF.out k] at ck
      have eM : (ms'.getD k moD).abs = X.objs.getD k obD := by
        rw [← abs_getD, hH.2.1.1]
        exact looseK_fmt hkx (Nat.lt_irrefl _)
      obtain ⟨sa, sn, sc, hsv⟩ := objs_slices (ownO_at hH.2.1.2.1) _ (mem_getD (ms := ms') (i := k) (by omega))
      have hfm : (ms'.getD k moD).fmt = (X.objs.getD k obD).fmt := congrArg Ob.fmt eM
      have hsl : (ms'.getD k moD).slots = (X.objs.getD k obD).slots := congrArg Ob.slots eM
      obtain ⟨X1, hX1⟩ : ∃ X1, X1 = wr.alloc (ob (ms'.getD k moD)) := ⟨_, rfl⟩
      have b1 : Below wr.heap.size wr X1 := by rw [hX1]; exact (Below.refl _ _).alloc (Nat.le_refl _) _
      have T1 : X1.heap[wr.heap.size]? = some (ob (ms'.getD k moD)) := by rw [hX1]; exact heap_alloc_new _ _
      have H1 := ho_below (ho_more hH (Nat.le_refl _)) b1
      have K1 := kept_below hK b1
      have B1 := hB.trans (b1.mono (Nat.le_trans hbase hB.size))
      have ck1 := (b1.cell (p := ⟨Bi, k, none⟩) (cell_lt ck)).trans ck
      have HSK : Hid (f k = false ∨ ¬ (X.objs.getD k obD).fmt = 1 → HO X1 base P (.slice (some ⟨b, off, none⟩) ms.length c1) (.slice a2 n2 c2) (.slice a3 n3 c3) ms' { X with objs := looseK X.objs f (k + 1) } [Bi] ∧ KeptAt X1 Bi is ∧ Below base W X1) := fun h => ⟨by rw [looseK_skip hkx h]; exact ho_less H1 (fun x hx => List.mem_cons_of_mem _ hx), K1, B1⟩
      have HH1 : Hid _ := H1
      have HK1 : Hid _ := K1
      have HB1 : Hid _ := B1
      have hsv2 := hsv
      rw [hfm] at x2
      rw [hsv] at x4
      obtain ⟨y0, y1, y2, y3, y4⟩ := ob_cells T1
      rw [hfm] at y2
      rw [hsv] at y4
      unfold ob at hX1
      rw [hfm, hsv] at hX1
      unfold ob at T1
      rw [hfm, hsv] at T1
      have HT1 : Hid _ := T1
      have HMS : Hid (_ ∧ _) := And.intro hsv hsl
      clear hH hK hB b1 H1 K1 B1 T1 hco hcc eM hsv2 e2 hsl hsv
      generalize (ms'.getD k moD).id = mi at *
      generalize (ms'.getD k moD).cls = mc at *
      generalize (ms'.getD k moD).hash = mh at *
      generalize hfmt : (X.objs.getD k obD).fmt = mf at *
      cases hfk : f k
      · have ST : Hid _ := HSK.out (.inl hfk)
        rw [hfk] at ck ck1
        clear HSK
        subst hX1
        go_wp2
        exact ⟨⟨k + 1, ms', by omega, by go_num, hml, ST.out⟩, by simp [intOf]; omega⟩
      · rw [hfk] at ck ck1
        by_cases h1 : mf = 1
        · subst h1
          obtain ⟨hsv, hsl⟩ := HMS.out
          have hORk := HH1.out.2.1.2.1.2.1 _ (mem_getD (ms := ms') (i := k) (by omega))
          have eL : sn = (X.objs.getD k obD).slots.length := by
            rw [← hsl]
            rw [hsv] at hORk
            obtain ⟨_, ⟨h1, h2⟩ | ⟨g', cap', cur, h1, _⟩⟩ := hORk
            · injection h1 with _ h3 _; omega
            · injection h1
          have hL20 : sn ≤ 1048576 := by
            rw [eL]
            exact slots_small HR.out hkx
          have HI0 : Hid (HO X1 base P (.slice (some ⟨b, off, none⟩) ms.length c1) (.slice a2 n2 c2) (.slice a3 n3 c3) ms' { X with objs := looseI X.objs f k 0 } [wr.heap.size, Bi]) := by
            show HO _ _ _ _ _ _ _ _ _
            rw [looseI_zero hkx]; exact HH1.out
          have HEL : Hid _ := eL
          have HSV : Hid _ := hsv
          have HSL : Hid _ := hsl
          have HFM : Hid _ := hfmt
          clear HSK hORk HMS ck eL hsv hsl hfmt hfm
          subst hX1
          go_wp2_with fail
          generalize hbx : wr.heap.size = bx at *
          clear hbx x0 x1 x2 x3 x4 y0 y1 y2 y3 y4 ck1
          go_loopw [33] (fun i wy => ∃ (j : Nat) (ms2 : List MO), j ≤ sn ∧ i = .int .i64 (j : Int) ∧ ms2.length = ms.length ∧ HO wy base P (.slice (some ⟨b, off, none⟩) ms.length c1) (.slice a2 n2 c2) (.slice a3 n3 c3) ms2 { X with objs := looseI X.objs f k j } [bx, Bi] ∧ (ms2.getD k moD).sv = .slice sa sn sc ∧ wy.heap[bx]? = some (.cells #[.int .i64 mi, .int .i64 mc, .int .i64 1, .int .i64 mh, .slice sa sn sc] 53) ∧ KeptAt wy Bi is ∧ Below base W wy) (fun i _ => sn - (intOf i).toNat)
          case atStart => exact ⟨0, ms', Nat.zero_le _, rfl, hml, HI0.out, HSV.out, HT1.out, HK1.out, HB1.out⟩
          case round =>
            obtain ⟨j, ms2, hj, rfl, hml2, h2, hsv2, ht2, hk2, hb2⟩ := hrel
            clear HI0 HT1 HK1 HB1 HH1
            by_cases hjl : j < sn
            · have hjl' : (j : Int) < (sn : Int) := by omega
              have es2 : (ms2.getD k moD).slots = ((X.objs.getD k obD).slots.take j).map (looseE X.objs f) ++ (X.objs.getD k obD).slots.drop j := by
                rw [own_abs h2.2.1 k]
                show ((looseI X.objs f k j).getD k obD).slots = _
                rw [looseI_getD hkx hkx, if_pos rfl]
              have el2 : (ms2.getD k moD).slots.length = sn := by
                rw [es2, HEL.out, List.length_append, List.length_map, List.length_take, List.length_drop]
                have := HEL.out
                omega
              have hOR := h2.2.1.2.1.2.1 _ (mem_getD (ms := ms2) (i := k) (by omega))
              rw [hsv2] at hOR
              obtain ⟨q, c', e'⟩ := ownR_form hOR (by omega)
              have e1 : sa = some ⟨q, 0, none⟩ := by injection e'
              clear e'
              subst e1
              have cr := ownR_cell hOR (i := j) (by omega)
              have ee : (ms2.getD k moD).slots.getD j refD = (X.objs.getD k obD).slots.getD j refD := by rw [es2]; exact take_map_get
              rw [ee] at cr
              have fr0 := row_frozen hOR (j * 2)
              have fr1 := row_frozen hOR (j * 2 + 1)
              have hok := HR.out.sl k hkx j (by have := HEL.out; omega)
              have HLO : Hid _ := led_loose (f := f) (k := k) (i := j) hkx _ hok
              have HNX : Hid _ := looseI_next (f := f) hkx (show j < (X.objs.getD k obD).slots.length by have := HEL.out; omega)
              generalize hee : (X.objs.getD k obD).slots.getD j refD = ee0 at *
              obtain ⟨e1, e2⟩ := ee0
              obtain ⟨cr0, cr1⟩ := cr
              have by1 : Below wr.heap.size wr (wr.alloc (rb (e1, e2))) := (Below.refl _ _).alloc (Nat.le_refl _) _
              have hY := ho_below h2 by1
              obtain ⟨p0, _⟩ := five_cells hY.1
              obtain ⟨rb0, rb1⟩ := rb_cells (heap_alloc_new wr (rb (e1, e2)))
              simp only at rb0 rb1
              have LED := ledTo_any (w := (wr.alloc (rb (e1, e2))).drew) (show OrowAt (wr.alloc (rb (e1, e2))).drew _ _ from (ownO_at hY.2.1.2.1).1) (objs_slices (ownO_at hY.2.1.2.1)) hY.2.1.1 (rise_loose HR.out hkx) (show ms2.length ≤ 1048576 by omega) (e1, e2)
              have hlp : ledB (looseI X.objs f k j) (e1, e2) = true → ledP (looseI X.objs f k j) (e1, e2) < ms.length := fun h => by
                have := ledP_lt h
                rw [looseI_len] at this
                have := HX.out
                omega
              have HALL : Hid (∀ w4, Below (wr.alloc (rb (e1, e2))).drew.heap.size (wr.alloc (rb (e1, e2))).drew w4 →
                  (w4.cell? ⟨bx, 4, none⟩ = some (.slice (some ⟨q, 0, none⟩) sn sc) ∧ w4.cell? ⟨q, j * 2, none⟩ = some (.int .i64 e1) ∧ w4.cell? ⟨q, j * 2 + 1, none⟩ = some (.int .i64 e2) ∧ w4.frozen? ⟨q, j * 2, none⟩ = false ∧ w4.frozen? ⟨q, j * 2 + 1, none⟩ = false ∧ (∀ p, p < ms.length → w4.cell? ⟨Bi, p, none⟩ = some (.bool (f p)))) ∧
                  (looseB X.objs f (e1, e2) = false → HO w4 base P (.slice (some ⟨b, off, none⟩) ms.length c1) (.slice a2 n2 c2) (.slice a3 n3 c3) ms2 { X with objs := looseI X.objs f k (j + 1) } [bx, Bi] ∧ (ms2.getD k moD).sv = .slice (some ⟨q, 0, none⟩) sn sc ∧ w4.heap[bx]? = some (.cells #[.int .i64 mi, .int .i64 mc, .int .i64 1, .int .i64 mh, .slice (some ⟨q, 0, none⟩) sn sc] 53) ∧ KeptAt w4 Bi is ∧ Below base W w4) ∧
                  (looseB X.objs f (e1, e2) = true → ∃ ms3, ms3.length = ms.length ∧ HO (put2 w4 q j (0, 0)) base P (.slice (some ⟨b, off, none⟩) ms.length c1) (.slice a2 n2 c2) (.slice a3 n3 c3) ms3 { X with objs := looseI X.objs f k (j + 1) } [bx, Bi] ∧ (ms3.getD k moD).sv = .slice (some ⟨q, 0, none⟩) sn sc ∧ (put2 w4 q j (0, 0)).heap[bx]? = some (.cells #[.int .i64 mi, .int .i64 mc, .int .i64 1, .int .i64 mh, .slice (some ⟨q, 0, none⟩) sn sc] 53) ∧ KeptAt (put2 w4 q j (0, 0)) Bi is ∧ Below base W (put2 w4 q j (0, 0)))) := fun w4 b4' => by
                have b4 : Below wr.heap.size wr w4 := by1.trans (Below.mono ⟨b4'.os, b4'.tape, b4'.output, b4'.size, b4'.block⟩ (by simp))
                have H4 := ho_below h2 b4
                have K4 := kept_below hk2 b4
                have T4 := (b4.block bx (lt_of_block ht2)).trans ht2
                have B4 := hb2.trans (b4.mono (Nat.le_trans hbase hb2.size))
                have O4 := H4.2.1.2.1.2.1 _ (mem_getD (ms := ms2) (i := k) (by omega))
                rw [hsv2] at O4
                refine ⟨⟨by simp [World.cell?, T4], (b4.cell (p := ⟨q, j * 2, none⟩) (cell_lt cr0)).trans cr0, (b4.cell (p := ⟨q, j * 2 + 1, none⟩) (cell_lt cr1)).trans cr1, row_frozen O4 _, row_frozen O4 _, fun p hp => ?_⟩, fun hl => ?_, fun hl => ?_⟩
                · have := kept_cell K4 (p := p) (by have := HL.out; omega)
                  rw [HF.out p] at this
                  exact this
                · rw [hl] at HNX
                  rw [HNX.out, if_neg (by simp)]
                  exact ⟨H4, hsv2, T4, K4, B4⟩
                · rw [hl] at HNX
                  rw [HNX.out, if_pos rfl]
                  obtain ⟨s1, s2, s3, s4⟩ := ho_setSlot H4 (k := k) (by omega) hsv2 j (0, 0)
                  exact ⟨_, by rw [List.length_set]; exact hml2, s1, by rw [set_sv]; exact hsv2, (s3 bx (by simp)).trans T4, (s3 Bi (by simp)).trans K4, B4.trans s2⟩
              generalize ledB (looseI X.objs f k j) (e1, e2) = lb at *
              generalize ledP (looseI X.objs f k j) (e1, e2) = lp at *
              have hLO := HLO.out
              clear h2 hsv2 ht2 hk2 hb2 es2 el2 hOR ee fr0 fr1 hok HNX hY HLO hee by1
              cases hlb : lb
              · have hn : looseB X.objs f (e1, e2) = false := by rw [← hLO, hlb]; rfl
                rw [hlb] at LED
                clear hlb hLO hlp
                go_wp2_with fail
                go_region_law (go_simp; go_at_call 64; refine LED.mono ?_; clear LED; rintro e w4 ⟨t4, rfl, hto, b4⟩; obtain ⟨⟨d0, d1, d2, d3, d4, d5⟩, dn, dy⟩ := HALL.out w4 b4; have HN : Hid _ := dn hn; clear dn dy b4 HALL hto d5)
                all_goals go_wp2
                all_goals exact ⟨⟨j + 1, ms2, by omega, by go_num, hml2, HN.out⟩, by simp [intOf]; omega⟩
              · have hlpl := hlp hlb
                rw [hlb] at LED hLO
                clear hlp hlb
                have hlpi : (lp : Int) < (ms.length : Int) := by omega
                cases hfl : f lp
                · have hn : looseB X.objs f (e1, e2) = true := by rw [← hLO, hfl]; rfl
                  clear hLO
                  go_wp2_with fail
                  go_region_law (go_simp; go_at_call 64; refine LED.mono ?_; clear LED; rintro e w4 ⟨t4, rfl, hto, b4⟩; have ht := hto trivial; subst ht; obtain ⟨⟨d0, d1, d2, d3, d4, d5⟩, dn, dy⟩ := HALL.out w4 b4; have d6 := d5 _ hlpl; rw [hfl] at d6; have HN : Hid _ := dy hn; clear dn dy b4 HALL hto d5)
                  all_goals go_wp2
                  all_goals
                    obtain ⟨ms3, q1, q2⟩ := HN.out
                    exact ⟨⟨j + 1, ms3, by omega, by go_num, q1, q2⟩, by simp [intOf]; omega⟩
                · have hn : looseB X.objs f (e1, e2) = false := by rw [← hLO, hfl]; rfl
                  clear hLO
                  go_wp2_with fail
                  go_region_law (go_simp; go_at_call 64; refine LED.mono ?_; clear LED; rintro e w4 ⟨t4, rfl, hto, b4⟩; have ht := hto trivial; subst ht; obtain ⟨⟨d0, d1, d2, d3, d4, d5⟩, dn, dy⟩ := HALL.out w4 b4; have d6 := d5 _ hlpl; rw [hfl] at d6; have HN : Hid _ := dn hn; clear dn dy b4 HALL hto d5)
                  all_goals go_wp2
                  all_goals exact ⟨⟨j + 1, ms2, by omega, by go_num, hml2, HN.out⟩, by simp [intOf]; omega⟩
            · have e : j = sn := by omega
              subst e
              have HST : Hid (HO wr base P (.slice (some ⟨b, off, none⟩) ms.length c1) (.slice a2 n2 c2) (.slice a3 n3 c3) ms2 { X with objs := looseK X.objs f (k + 1) } [Bi] ∧ KeptAt wr Bi is ∧ Below base W wr) := ⟨by
                rw [← looseI_all hkx hfk HFM.out, ← HEL.out]
                exact ho_less h2 (fun x hx => List.mem_cons_of_mem _ hx), hk2, hb2⟩
              have hjl' : ¬ (j : Int) < (j : Int) := by omega
              clear h2 hsv2 ht2 hk2 hb2
              go_wp2
              exact ⟨⟨k + 1, ms2, by omega, by go_num, hml2, HST.out⟩, by simp [intOf]; omega⟩
        · have h1' : (mf != 1) = true := by simp [h1]
          have ST : Hid _ := HSK.out (.inr h1)
          clear HSK
          subst hX1
          go_wp2
          exact ⟨⟨k + 1, ms', by omega, by go_num, hml, ST.out⟩, by simp [intOf]; omega⟩
    · have e : k = ms.length := by omega
      subst e
      have HF2 : Hid (∃ ms', HO wr base P (.slice a1 ms.length c1) (.slice a2 n2 c2) (.slice a3 n3 c3) ms' { X with objs := looseK X.objs f X.objs.length } [Bi]) := ⟨ms', by rw [← HX.out]; exact hH⟩
      have HK2 : Hid _ := hK
      have HB2 : Hid _ := hB
      have hlt' : ¬ (ms.length : Int) < (ms.length : Int) := by omega
      clear hH hK hB
      go_wp2
      go_end0
      exact ⟨rfl, HF2.out, HK2.out, HB2.out⟩
end Go.Proofs.Ytdogibjgogcdkac.gr
