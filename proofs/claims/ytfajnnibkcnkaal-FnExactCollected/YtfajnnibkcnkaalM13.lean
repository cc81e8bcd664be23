/-
  Chapter 7: an object and a ref in boxes of their own. Chapter 7 as the program has it: loosen. slices.SortFunc over numbers, laid over the program: which function and type of the library's own text is which one here. Chapter 7 as the program has it: how two that grieve are held against each other. A region that draws its order, by an invariant of what has come up, of the frame and of the world: each operation that may come up keeps it, in whatever order; no branching.
-/
import Derived.Test.YtfajnnibkcnkaalM12
import Derived.Test.YtfajnnibkcnkaalRows
import Derived.WalkKit
import Derived.Shelf.SlSortCmp.NoneTotal
import Derived.Test.YtfajnnibkcnkaalProg
import Derived.Orders
import Derived.Deep.Quiet
namespace Go.Proofs.Ytfajnnibkcnkaal.gr
open Go.RowKit rows heads

theorem ob_cells {w : World} {b : Nat} {M : MO} (h : w.heap[b]? = some (ob M)) : w.cell? ⟨b, 0, none⟩ = some (.int .i64 M.id) ∧ w.cell? ⟨b, 1, none⟩ = some (.int .i64 M.cls) ∧ w.cell? ⟨b, 2, none⟩ = some (.int .i64 M.fmt) ∧ w.cell? ⟨b, 3, none⟩ = some (.int .i64 M.hash) ∧ w.cell? ⟨b, 4, none⟩ = some M.sv := ⟨by simp [World.cell?, h, ob], by simp [World.cell?, h, ob], by simp [World.cell?, h, ob], by simp [World.cell?, h, ob], by simp [World.cell?, h, ob]⟩
theorem slots_small {G : Gr} (h : Right G) {k : Nat} (hk : k < G.objs.length) : (G.objs.getD k obD).slots.length ≤ 1048576 := by
  have := (hok_true (obOk_lt (h.ob k hk)).2.2.2).2.1
  omega
end Go.Proofs.Ytfajnnibkcnkaal.gr
namespace Go.Proofs.Ytfajnnibkcnkaal.gr
open Go.RowKit rows heads
set_option maxRecDepth 100000
set_option linter.unusedVariables false

/-- What is told of the places, as it lies. -/
def KeptAt (w : World) (Bi : Nat) (is : List Bool) : Prop := w.heap[Bi]? = some (.cells (is.map Value.bool).toArray 4 (0, 0))
theorem kept_cell {w : World} {Bi : Nat} {is : List Bool} (h : KeptAt w Bi is) {p : Nat} (hp : p < is.length) : w.cell? ⟨Bi, p, none⟩ = some (.bool (is.getD p false)) := by
  unfold KeptAt at h
  simp [World.cell?, h, List.getD_eq_getElem?_getD, List.getElem?_eq_getElem hp]
theorem kept_below {w w' : World} {Bi : Nat} {is : List Bool} (h : KeptAt w Bi is) (hb : Below w.heap.size w w') : KeptAt w' Bi is := (hb.block Bi (lt_of_block h)).trans h
theorem rb_cells {w : World} {b : Nat} {e : Rf} (h : w.heap[b]? = some (rb e)) : w.cell? ⟨b, 0, none⟩ = some (.int .i64 e.1) ∧ w.cell? ⟨b, 1, none⟩ = some (.int .i64 e.2) := ⟨by simp [World.cell?, h, rb], by simp [World.cell?, h, rb]⟩
theorem led_loose {G : Gr} {f : Nat → Bool} {k i : Nat} (hk : k < G.objs.length) (e : Rf) (he : refOk G.objs e = true) :
    (ledB (looseI G.objs f k i) e && !(f (ledP (looseI G.objs f k i) e))) = looseB G.objs f e := by
  have hat : atI (looseI G.objs f k i) e.2 = atI G.objs e.2 := atI_ids (looseI_map hk) _
  unfold ledB ledP looseB
  rw [hat]
  by_cases h2 : e.1 = 2
  · rw [decide_eq_true (refOk_two he h2).1, Bool.and_true]
  · have : (e.1 == 2) = false := by simpa using h2
    rw [this]
    rfl

theorem rise_loose {G : Gr} (h : Right G) {f : Nat → Bool} {k i : Nat} (hk : k < G.objs.length) : Rise (looseI G.objs f k i) := fun a b hab hb => by
  rw [looseI_len] at hb
  rw [looseI_ids hk (by omega), looseI_ids hk hb]
  exact gOk_rise h.gOk a b hab hb

set_option maxHeartbeats 8000000 in
theorem loosen_any {W : World} {base P Bi : Nat} {o r m : Value} {ms : List MO} {X : Gr} {f : Nat → Bool} {is : List Bool} (H : HO W base P o r m ms X [Bi]) (hr : Right X) (K : KeptAt W Bi is) (hl : is.length = ms.length) (hf : ∀ p, is.getD p false = f p) :
    Calls Try.prog 50 #[.pointer (some ⟨P, 0, none⟩), .slice (some ⟨Bi, 0, none⟩) ms.length ms.length] W fun e w' => e = .returned (.tuple #[]) ∧ (∃ ms', HO w' base P o r m ms' { X with objs := looseK X.objs f X.objs.length } [Bi]) ∧ KeptAt w' Bi is ∧ Below base W w' := by
  have hbase := held_base (ho_held H)
  have hlen := own_len H.2.1
  have h200 : ms.length ≤ 200 := by rw [hlen]; exact (gOk_len hr.gOk).1
  obtain ⟨a1, n1, c1, a2, n2, c2, a3, n3, c3, e1, e2, e3⟩ := graphAt_slices (ownG_at H.2.1)
  subst e1 e2 e3
  have en : n1 = ms.length := by
    obtain ⟨a', c', e', _⟩ := (ownO_at H.2.1.2.1).1
    injection e'
  subst en
  have HH : Hid (∃ ms', ms'.length = ms.length ∧ HO W base P (.slice a1 ms.length c1) (.slice a2 n2 c2) (.slice a3 n3 c3) ms' { X with objs := looseK X.objs f 0 } [Bi]) := ⟨ms, rfl, ho_objs H (looseK_zero X.objs f).symm⟩
  obtain ⟨z0, _⟩ := five_cells H.1
  have HK : Hid _ := K
  have HF : Hid _ := hf
  have HR : Hid _ := hr
  have hx : ms.length = X.objs.length := hlen
  have HX : Hid _ := hx
  have HL : Hid _ := hl
  clear H K hf hr hlen hx hl
  go_enter Try.func50, Try.ntmps50
  go_wp2_with fail
  go_loopw [15] (fun i wz => ∃ (k : Nat) (ms' : List MO), k ≤ ms.length ∧ i = .int .i64 (k : Int) ∧ ms'.length = ms.length ∧ HO wz base P (.slice a1 ms.length c1) (.slice a2 n2 c2) (.slice a3 n3 c3) ms' { X with objs := looseK X.objs f k } [Bi] ∧ KeptAt wz Bi is ∧ Below base W wz) (fun i _ => ms.length - (intOf i).toNat)
  case atStart =>
    obtain ⟨ms', h1, h2⟩ := HH.out
    exact ⟨0, ms', Nat.zero_le _, rfl, h1, h2, HK.out, (Below.refl _ W).mono hbase⟩
  case round =>
    obtain ⟨k, ms', hk, rfl, hml, hH, hK, hB⟩ := hrel
    clear HH HK z0
    by_cases hlt : k < ms.length
    · have hlt' : (k : Int) < (ms.length : Int) := by omega
      have hkx : k < X.objs.length := by have := HX.out; omega
      obtain ⟨a', c', e', _, _, _, hco⟩ := (ownO_at hH.2.1.2.1).1
      injection e' with e1 e2 e3
      subst e1 e3
      obtain ⟨b, off, rfl, hb, hcc⟩ := hco (by omega)
      obtain ⟨x0, x1, x2, x3, x4⟩ := hcc k (by omega)
      have ck := kept_cell hK (p := k) (by have := HL.out; omega)
      rw [HF.out k] at ck
      have eM : (ms'.getD k moD).abs = X.objs.getD k obD := by
        rw [← abs_getD, hH.2.1.1]
        exact looseK_fmt hkx (Nat.lt_irrefl _)
      obtain ⟨sa, sn, sc, hsv⟩ := objs_slices (ownO_at hH.2.1.2.1) _ (mem_getD (ms := ms') (i := k) (by omega))
      have hfm : (ms'.getD k moD).fmt = (X.objs.getD k obD).fmt := congrArg Ob.fmt eM
      have hsl : (ms'.getD k moD).slots = (X.objs.getD k obD).slots := congrArg Ob.slots eM
      obtain ⟨X1, hX1⟩ : ∃ X1, X1 = wr.alloc (ob (ms'.getD k moD)) := ⟨_, rfl⟩
      have b1 : Below wr.heap.size wr X1 := by rw [hX1]; exact (Below.refl _ _).alloc (Nat.le_refl _) _
      have T1 : X1.heap[wr.heap.size]? = some (ob (ms'.getD k moD)) := by rw [hX1]; exact heap_alloc_new _ _
      have H1 := ho_below (ho_more hH (Nat.le_refl _)) b1
      have K1 := kept_below hK b1
      have B1 := hB.trans (b1.mono (Nat.le_trans hbase hB.size))
      have ck1 := (b1.cell (p := ⟨Bi, k, none⟩) (cell_lt ck)).trans ck
      have HSK : Hid (f k = false ∨ ¬ (X.objs.getD k obD).fmt = 1 → HO X1 base P (.slice (some ⟨b, off, none⟩) ms.length c1) (.slice a2 n2 c2) (.slice a3 n3 c3) ms' { X with objs := looseK X.objs f (k + 1) } [Bi] ∧ KeptAt X1 Bi is ∧ Below base W X1) := fun h => ⟨by rw [looseK_skip hkx h]; exact ho_less H1 (fun x hx => List.mem_cons_of_mem _ hx), K1, B1⟩
      have HH1 : Hid _ := H1
      have HK1 : Hid _ := K1
      have HB1 : Hid _ := B1
      have hsv2 := hsv
      rw [hfm] at x2
      rw [hsv] at x4
      obtain ⟨y0, y1, y2, y3, y4⟩ := ob_cells T1
      rw [hfm] at y2
      rw [hsv] at y4
      unfold ob at hX1
      rw [hfm, hsv] at hX1
      unfold ob at T1
      rw [hfm, hsv] at T1
      have HT1 : Hid _ := T1
      have HMS : Hid (_ ∧ _) := And.intro hsv hsl
      clear hH hK hB b1 H1 K1 B1 T1 hco hcc eM hsv2 e2 hsl hsv
      generalize (ms'.getD k moD).id = mi at *
      generalize (ms'.getD k moD).cls = mc at *
      generalize (ms'.getD k moD).hash = mh at *
      generalize hfmt : (X.objs.getD k obD).fmt = mf at *
      cases hfk : f k
      · have ST : Hid _ := HSK.out (.inl hfk)
        rw [hfk] at ck ck1
        clear HSK
        subst hX1
        go_wp2
        exact ⟨⟨k + 1, ms', by omega, by go_num, hml, ST.out⟩, by simp [intOf]; omega⟩
      · rw [hfk] at ck ck1
        by_cases h1 : mf = 1
        · subst h1
          obtain ⟨hsv, hsl⟩ := HMS.out
          have hORk := HH1.out.2.1.2.1.2.1 _ (mem_getD (ms := ms') (i := k) (by omega))
          have eL : sn = (X.objs.getD k obD).slots.length := by
            rw [← hsl]
            rw [hsv] at hORk
            obtain ⟨_, ⟨h1, h2⟩ | ⟨g', cap', cur, h1, _⟩⟩ := hORk
            · injection h1 with _ h3 _; omega
            · injection h1
          have hL20 : sn ≤ 1048576 := by
            rw [eL]
            exact slots_small HR.out hkx
          have HI0 : Hid (HO X1 base P (.slice (some ⟨b, off, none⟩) ms.length c1) (.slice a2 n2 c2) (.slice a3 n3 c3) ms' { X with objs := looseI X.objs f k 0 } [wr.heap.size, Bi]) := by
            show HO _ _ _ _ _ _ _ _ _
            rw [looseI_zero hkx]; exact HH1.out
          have HEL : Hid _ := eL
          have HSV : Hid _ := hsv
          have HSL : Hid _ := hsl
          have HFM : Hid _ := hfmt
          clear HSK hORk HMS ck eL hsv hsl hfmt hfm
          subst hX1
          go_wp2_with fail
          generalize hbx : wr.heap.size = bx at *
          clear hbx x0 x1 x2 x3 x4 y0 y1 y2 y3 y4 ck1
          go_loopw [33] (fun i wy => ∃ (j : Nat) (ms2 : List MO), j ≤ sn ∧ i = .int .i64 (j : Int) ∧ ms2.length = ms.length ∧ HO wy base P (.slice (some ⟨b, off, none⟩) ms.length c1) (.slice a2 n2 c2) (.slice a3 n3 c3) ms2 { X with objs := looseI X.objs f k j } [bx, Bi] ∧ (ms2.getD k moD).sv = .slice sa sn sc ∧ wy.heap[bx]? = some (.cells #[.int .i64 mi, .int .i64 mc, .int .i64 1, .int .i64 mh, .slice sa sn sc] 51) ∧ KeptAt wy Bi is ∧ Below base W wy) (fun i _ => sn - (intOf i).toNat)
          case atStart => exact ⟨0, ms', Nat.zero_le _, rfl, hml, HI0.out, HSV.out, HT1.out, HK1.out, HB1.out⟩
          case round =>
            obtain ⟨j, ms2, hj, rfl, hml2, h2, hsv2, ht2, hk2, hb2⟩ := hrel
            clear HI0 HT1 HK1 HB1 HH1
            by_cases hjl : j < sn
            · have hjl' : (j : Int) < (sn : Int) := by omega
              have es2 : (ms2.getD k moD).slots = ((X.objs.getD k obD).slots.take j).map (looseE X.objs f) ++ (X.objs.getD k obD).slots.drop j := by
                rw [own_abs h2.2.1 k]
                show ((looseI X.objs f k j).getD k obD).slots = _
                rw [looseI_getD hkx hkx, if_pos rfl]
              have el2 : (ms2.getD k moD).slots.length = sn := by
                rw [es2, HEL.out, List.length_append, List.length_map, List.length_take, List.length_drop]
                have := HEL.out
                omega
              have hOR := h2.2.1.2.1.2.1 _ (mem_getD (ms := ms2) (i := k) (by omega))
              rw [hsv2] at hOR
              obtain ⟨q, c', e'⟩ := ownR_form hOR (by omega)
              have e1 : sa = some ⟨q, 0, none⟩ := by injection e'
              clear e'
              subst e1
              have cr := ownR_cell hOR (i := j) (by omega)
              have ee : (ms2.getD k moD).slots.getD j refD = (X.objs.getD k obD).slots.getD j refD := by rw [es2]; exact take_map_get
              rw [ee] at cr
              have fr0 := row_frozen hOR (j * 2)
              have fr1 := row_frozen hOR (j * 2 + 1)
              have hok := HR.out.sl k hkx j (by have := HEL.out; omega)
              have HLO : Hid _ := led_loose (f := f) (k := k) (i := j) hkx _ hok
              have HNX : Hid _ := looseI_next (f := f) hkx (show j < (X.objs.getD k obD).slots.length by have := HEL.out; omega)
              generalize hee : (X.objs.getD k obD).slots.getD j refD = ee0 at *
              obtain ⟨e1, e2⟩ := ee0
              obtain ⟨cr0, cr1⟩ := cr
              have by1 : Below wr.heap.size wr (wr.alloc (rb (e1, e2))) := (Below.refl _ _).alloc (Nat.le_refl _) _
              have hY := ho_below h2 by1
              obtain ⟨p0, _⟩ := five_cells hY.1
              obtain ⟨rb0, rb1⟩ := rb_cells (heap_alloc_new wr (rb (e1, e2)))
              simp only at rb0 rb1
              have LED := ledTo_any (w := (wr.alloc (rb (e1, e2))).drew) (show OrowAt (wr.alloc (rb (e1, e2))).drew _ _ from (ownO_at hY.2.1.2.1).1) (objs_slices (ownO_at hY.2.1.2.1)) hY.2.1.1 (rise_loose HR.out hkx) (show ms2.length ≤ 1048576 by omega) (e1, e2)
              have hlp : ledB (looseI X.objs f k j) (e1, e2) = true → ledP (looseI X.objs f k j) (e1, e2) < ms.length := fun h => by
                have := ledP_lt h
                rw [looseI_len] at this
                have := HX.out
                omega
              have HALL : Hid (∀ w4, Below (wr.alloc (rb (e1, e2))).drew.heap.size (wr.alloc (rb (e1, e2))).drew w4 →
                  (w4.cell? ⟨bx, 4, none⟩ = some (.slice (some ⟨q, 0, none⟩) sn sc) ∧ w4.cell? ⟨q, j * 2, none⟩ = some (.int .i64 e1) ∧ w4.cell? ⟨q, j * 2 + 1, none⟩ = some (.int .i64 e2) ∧ w4.frozen? ⟨q, j * 2, none⟩ = false ∧ w4.frozen? ⟨q, j * 2 + 1, none⟩ = false ∧ (∀ p, p < ms.length → w4.cell? ⟨Bi, p, none⟩ = some (.bool (f p)))) ∧
                  (looseB X.objs f (e1, e2) = false → HO w4 base P (.slice (some ⟨b, off, none⟩) ms.length c1) (.slice a2 n2 c2) (.slice a3 n3 c3) ms2 { X with objs := looseI X.objs f k (j + 1) } [bx, Bi] ∧ (ms2.getD k moD).sv = .slice (some ⟨q, 0, none⟩) sn sc ∧ w4.heap[bx]? = some (.cells #[.int .i64 mi, .int .i64 mc, .int .i64 1, .int .i64 mh, .slice (some ⟨q, 0, none⟩) sn sc] 51) ∧ KeptAt w4 Bi is ∧ Below base W w4) ∧
                  (looseB X.objs f (e1, e2) = true → ∃ ms3, ms3.length = ms.length ∧ HO (put2 w4 q j (0, 0)) base P (.slice (some ⟨b, off, none⟩) ms.length c1) (.slice a2 n2 c2) (.slice a3 n3 c3) ms3 { X with objs := looseI X.objs f k (j + 1) } [bx, Bi] ∧ (ms3.getD k moD).sv = .slice (some ⟨q, 0, none⟩) sn sc ∧ (put2 w4 q j (0, 0)).heap[bx]? = some (.cells #[.int .i64 mi, .int .i64 mc, .int .i64 1, .int .i64 mh, .slice (some ⟨q, 0, none⟩) sn sc] 51) ∧ KeptAt (put2 w4 q j (0, 0)) Bi is ∧ Below base W (put2 w4 q j (0, 0)))) := fun w4 b4' => by
                have b4 : Below wr.heap.size wr w4 := by1.trans (Below.mono ⟨b4'.os, b4'.tape, b4'.output, b4'.size, b4'.block⟩ (by simp))
                have H4 := ho_below h2 b4
                have K4 := kept_below hk2 b4
                have T4 := (b4.block bx (lt_of_block ht2)).trans ht2
                have B4 := hb2.trans (b4.mono (Nat.le_trans hbase hb2.size))
                have O4 := H4.2.1.2.1.2.1 _ (mem_getD (ms := ms2) (i := k) (by omega))
                rw [hsv2] at O4
                refine ⟨⟨by simp [World.cell?, T4], (b4.cell (p := ⟨q, j * 2, none⟩) (cell_lt cr0)).trans cr0, (b4.cell (p := ⟨q, j * 2 + 1, none⟩) (cell_lt cr1)).trans cr1, row_frozen O4 _, row_frozen O4 _, fun p hp => ?_⟩, fun hl => ?_, fun hl => ?_⟩
                · have := kept_cell K4 (p := p) (by have := HL.out; omega)
                  rw [HF.out p] at this
                  exact this
                · rw [hl] at HNX
                  rw [HNX.out, if_neg (by simp)]
                  exact ⟨H4, hsv2, T4, K4, B4⟩
                · rw [hl] at HNX
                  rw [HNX.out, if_pos rfl]
                  obtain ⟨s1, s2, s3, s4⟩ := ho_setSlot H4 (k := k) (by omega) hsv2 j (0, 0)
                  exact ⟨_, by rw [List.length_set]; exact hml2, s1, by rw [set_sv]; exact hsv2, (s3 bx (by simp)).trans T4, (s3 Bi (by simp)).trans K4, B4.trans s2⟩
              generalize ledB (looseI X.objs f k j) (e1, e2) = lb at *
              generalize ledP (looseI X.objs f k j) (e1, e2) = lp at *
              have hLO := HLO.out
              clear h2 hsv2 ht2 hk2 hb2 es2 el2 hOR ee fr0 fr1 hok HNX hY HLO hee by1
              cases hlb : lb
              · have hn : looseB X.objs f (e1, e2) = false := by rw [← hLO, hlb]; rfl
                rw [hlb] at LED
                clear hlb hLO hlp
                go_wp2_with fail
                go_region_law (go_simp; go_at_call 70; refine LED.mono ?_; clear LED; rintro e w4 ⟨t4, rfl, hto, b4⟩; obtain ⟨⟨d0, d1, d2, d3, d4, d5⟩, dn, dy⟩ := HALL.out w4 b4; have HN : Hid _ := dn hn; clear dn dy b4 HALL hto d5)
                all_goals go_wp2
                all_goals exact ⟨⟨j + 1, ms2, by omega, by go_num, hml2, HN.out⟩, by simp [intOf]; omega⟩
              · have hlpl := hlp hlb
                rw [hlb] at LED hLO
                clear hlp hlb
                have hlpi : (lp : Int) < (ms.length : Int) := by omega
                cases hfl : f lp
                · have hn : looseB X.objs f (e1, e2) = true := by rw [← hLO, hfl]; rfl
                  clear hLO
                  go_wp2_with fail
                  go_region_law (go_simp; go_at_call 70; refine LED.mono ?_; clear LED; rintro e w4 ⟨t4, rfl, hto, b4⟩; have ht := hto trivial; subst ht; obtain ⟨⟨d0, d1, d2, d3, d4, d5⟩, dn, dy⟩ := HALL.out w4 b4; have d6 := d5 _ hlpl; rw [hfl] at d6; have HN : Hid _ := dy hn; clear dn dy b4 HALL hto d5)
                  all_goals go_wp2
                  all_goals
                    obtain ⟨ms3, q1, q2⟩ := HN.out
                    exact ⟨⟨j + 1, ms3, by omega, by go_num, q1, q2⟩, by simp [intOf]; omega⟩
                · have hn : looseB X.objs f (e1, e2) = false := by rw [← hLO, hfl]; rfl
                  clear hLO
                  go_wp2_with fail
                  go_region_law (go_simp; go_at_call 70; refine LED.mono ?_; clear LED; rintro e w4 ⟨t4, rfl, hto, b4⟩; have ht := hto trivial; subst ht; obtain ⟨⟨d0, d1, d2, d3, d4, d5⟩, dn, dy⟩ := HALL.out w4 b4; have d6 := d5 _ hlpl; rw [hfl] at d6; have HN : Hid _ := dn hn; clear dn dy b4 HALL hto d5)
                  all_goals go_wp2
                  all_goals exact ⟨⟨j + 1, ms2, by omega, by go_num, hml2, HN.out⟩, by simp [intOf]; omega⟩
            · have e : j = sn := by omega
              subst e
              have HST : Hid (HO wr base P (.slice (some ⟨b, off, none⟩) ms.length c1) (.slice a2 n2 c2) (.slice a3 n3 c3) ms2 { X with objs := looseK X.objs f (k + 1) } [Bi] ∧ KeptAt wr Bi is ∧ Below base W wr) := ⟨by
                rw [← looseI_all hkx hfk HFM.out, ← HEL.out]
                exact ho_less h2 (fun x hx => List.mem_cons_of_mem _ hx), hk2, hb2⟩
              have hjl' : ¬ (j : Int) < (j : Int) := by omega
              clear h2 hsv2 ht2 hk2 hb2
              go_wp2
              exact ⟨⟨k + 1, ms2, by omega, by go_num, hml2, HST.out⟩, by simp [intOf]; omega⟩
        · have h1' : (mf != 1) = true := by simp [h1]
          have ST : Hid _ := HSK.out (.inr h1)
          clear HSK
          subst hX1
          go_wp2
          exact ⟨⟨k + 1, ms', by omega, by go_num, hml, ST.out⟩, by simp [intOf]; omega⟩
    · have e : k = ms.length := by omega
      subst e
      have HF2 : Hid (∃ ms', HO wr base P (.slice a1 ms.length c1) (.slice a2 n2 c2) (.slice a3 n3 c3) ms' { X with objs := looseK X.objs f X.objs.length } [Bi]) := ⟨ms', by rw [← HX.out]; exact hH⟩
      have HK2 : Hid _ := hK
      have HB2 : Hid _ := hB
      have hlt' : ¬ (ms.length : Int) < (ms.length : Int) := by omega
      clear hH hK hB
      go_wp2
      go_end0
      exact ⟨rfl, HF2.out, HK2.out, HB2.out⟩
end Go.Proofs.Ytfajnnibkcnkaal.gr
namespace Go.Proofs.Ytfajnnibkcnkaal.gr
open Go Go.RowKit Go.Shelf

def lsort_ren : Go.Shelf.Ren := ⟨fun | 6 => 75 | 15 => 99 | 14 => 98 | 28 => 125 | 29 => 126 | 20 => 117 | 21 => 118 | 22 => 119 | 23 => 120 | 24 => 121 | 25 => 122 | 26 => 123 | 27 => 124 | 46 => 135 | 47 => 136 | 48 => 137 | 49 => 138 | 50 => 139 | 57 => 140 | n => n, fun | 22 => 56 | 24 => 3 | 25 => 101 | 3 => 3 | 39 => 122 | 0 => 0 | 53 => 147 | 55 => 149 | 4 => 4 | 46 => 141 | 45 => 140 | 50 => 91 | 5 => 5 | 9 => 9 | 66 => 157 | 70 => 161 | 76 => 163 | 77 => 164 | n => n, fun | n => n⟩
theorem lsort : Go.Proofs.SlLaysF.n6 Try.prog lsort_ren := {
  mixed := by kernel_rfl
  f6 := ⟨Try.f75.name, by decide, Try.func75.trans (congrArg some (by kernel_rfl))⟩
  f14 := ⟨Try.f98.name, by decide, Try.func98.trans (congrArg some (by kernel_rfl))⟩
  f15 := Try.func99.trans (congrArg some (by kernel_rfl))
  f20 := ⟨Try.f117.name, by decide, Try.func117.trans (congrArg some (by kernel_rfl))⟩
  f21 := ⟨Try.f118.name, by decide, Try.func118.trans (congrArg some (by kernel_rfl))⟩
  f22 := ⟨Try.f119.name, by decide, Try.func119.trans (congrArg some (by kernel_rfl))⟩
  f23 := ⟨Try.f120.name, by decide, Try.func120.trans (congrArg some (by kernel_rfl))⟩
  f24 := ⟨Try.f121.name, by decide, Try.func121.trans (congrArg some (by kernel_rfl))⟩
  f25 := ⟨Try.f122.name, by decide, Try.func122.trans (congrArg some (by kernel_rfl))⟩
  f26 := ⟨Try.f123.name, by decide, Try.func123.trans (congrArg some (by kernel_rfl))⟩
  f27 := ⟨Try.f124.name, by decide, Try.func124.trans (congrArg some (by kernel_rfl))⟩
  f28 := Try.func125.trans (congrArg some (by kernel_rfl))
  f29 := Try.func126.trans (congrArg some (by kernel_rfl))
  f46 := ⟨Try.f135.name, by decide, Try.func135.trans (congrArg some (by kernel_rfl))⟩
  f47 := Try.func136.trans (congrArg some (by kernel_rfl))
  f48 := Try.func137.trans (congrArg some (by kernel_rfl))
  f49 := ⟨Try.f138.name, by decide, Try.func138.trans (congrArg some (by kernel_rfl))⟩
  f50 := ⟨Try.f139.name, by decide, Try.func139.trans (congrArg some (by kernel_rfl))⟩
  f57 := ⟨Try.f140.name, by decide, Try.func140.trans (congrArg some (by kernel_rfl))⟩
  t0 := Try.underlying0
  a0 := Try.isAgg0
  z0 := Try.sizeOf0
  v0 := Try.zeroValue0
  t3 := Try.underlying3
  a3 := Try.isAgg3
  z3 := Try.sizeOf3
  v3 := Try.zeroValue3
  t4 := Try.underlying4
  a4 := Try.isAgg4
  z4 := Try.sizeOf4
  v4 := Try.zeroValue4
  t5 := Try.underlying5
  a5 := Try.isAgg5
  z5 := Try.sizeOf5
  v5 := Try.zeroValue5
  t9 := Try.underlying9
  a9 := Try.isAgg9
  z9 := Try.sizeOf9
  v9 := Try.zeroValue9
  t22 := Try.underlying56
  a22 := Try.isAgg56
  z22 := Try.sizeOf56
  v22 := Try.zeroValue56
  a24 := Try.isAgg3
  z24 := Try.sizeOf3
  t25 := Try.underlying101
  a25 := Try.isAgg101
  z25 := Try.sizeOf101
  v25 := Try.zeroValue101
  t39 := Try.underlying122
  a39 := Try.isAgg122
  z39 := Try.sizeOf122
  v39 := Try.zeroValue122
  t45 := Try.underlying140
  a45 := Try.isAgg140
  z45 := Try.sizeOf140
  v45 := Try.zeroValue140
  t46 := Try.underlying141
  a46 := Try.isAgg141
  z46 := Try.sizeOf141
  v46 := Try.zeroValue141
  t50 := Try.underlying91
  a50 := Try.isAgg91
  z50 := Try.sizeOf91
  v50 := Try.zeroValue91
  t53 := Try.underlying147
  a53 := Try.isAgg147
  z53 := Try.sizeOf147
  v53 := Try.zeroValue147
  t55 := Try.underlying149
  a55 := Try.isAgg149
  z55 := Try.sizeOf149
  v55 := Try.zeroValue149
  t66 := Try.underlying157
  a66 := Try.isAgg157
  z66 := Try.sizeOf157
  v66 := Try.zeroValue157
  t70 := Try.underlying161
  a70 := Try.isAgg161
  z70 := Try.sizeOf161
  v70 := Try.zeroValue161
  t76 := Try.underlying163
  a76 := Try.isAgg163
  z76 := Try.sizeOf163
  v76 := Try.zeroValue163
  t77 := Try.underlying164
  a77 := Try.isAgg164
  z77 := Try.sizeOf164
  v77 := Try.zeroValue164 }
end Go.Proofs.Ytfajnnibkcnkaal.gr
namespace Go.Proofs.Ytfajnnibkcnkaal.gr
open Go.RowKit rows heads
set_option maxRecDepth 100000
set_option linter.unusedVariables false

def orI (u v : Int) : Int := if u = 0 then v else u
set_option maxHeartbeats 2000000 in
theorem or2_any {w : World} {b : Nat} {u v : Int} (h0 : w.cell? ⟨b, 0, none⟩ = some (.int .i64 u)) (h1 : w.cell? ⟨b, 1, none⟩ = some (.int .i64 v)) :
    Calls Try.prog 77 #[.slice (some ⟨b, 0, none⟩) 2 2] w fun e w' => e = .returned (.int .i64 (orI u v)) ∧ w' = w := by
  by_cases hu : u = 0
  · subst hu
    have ER : Hid (orI 0 v = v) := rfl
    by_cases hv : v = 0
    · subst hv
      go_enter Try.func77, Try.ntmps77
      go_wp2_with fail
      refine wp_loop_rounds 3 ?_
      rw [rounds_succ]
      go_wp2
      rw [rounds_succ]
      go_wp2
      rw [rounds_succ]
      go_wp2
      go_ret
      exact ⟨rfl, rfl⟩
    · have hv' : (v != 0) = true := by simpa using hv
      go_enter Try.func77, Try.ntmps77
      go_wp2_with fail
      refine wp_loop_rounds 2 ?_
      rw [rounds_succ]
      go_wp2
      rw [rounds_succ]
      go_wp2
      go_ret
      exact ⟨rfl, rfl⟩
  · have hu' : (u != 0) = true := by simpa using hu
    have ER : Hid (orI u v = u) := by show _ = _; unfold orI; rw [if_neg hu]
    go_enter Try.func77, Try.ntmps77
    go_wp2_with fail
    refine wp_loop_rounds 1 ?_
    rw [rounds_succ]
    go_wp2
    go_ret
    exact ⟨by rw [ER.out]; rfl, rfl⟩
end Go.Proofs.Ytfajnnibkcnkaal.gr
namespace Go.Proofs.Ytfajnnibkcnkaal.region
open Go

theorem count_set (l : Array Bool) (i : Nat) (h : l.getD i true = false) : (l.setIfInBounds i true).toList.count false + 1 = l.toList.count false := by
  have hi : i < l.size := by
    rcases Nat.lt_or_ge i l.size with h' | h'
    · exact h'
    · simp [Array.getD, Nat.not_lt.2 h'] at h
  have he : l.toList[i]'(by simpa using hi) = false := by
    simpa [Array.getD, hi] using h
  rw [Array.toList_setIfInBounds, List.count_set (by simpa using hi)]
  have hc : 0 < l.toList.count false := List.count_pos_iff.2 (by rw [← he]; exact List.getElem_mem _)
  simp [he]
  have hc' : 0 < l.count false := by simpa using hc
  omega

theorem wpAny_inv {P : Program} {md : Region.Mode} {ops : Array Oper} {Q : Exit → Act → World → Prop} (I : Array Bool → Act → World → Prop)
    (fin : ∀ l a w, I l a w → Region.ready md ops l = [] → Q .normal a w)
    (stp : ∀ l a w i, I l a w → i ∈ Region.ready md ops l → wpOp P ops Q i (I (l.setIfInBounds i true)) a w) :
    ∀ (fuel : Nat) (l : Array Bool) (a : Act) (w : World), l.toList.count false ≤ fuel → I l a w → wpAny P md ops Q fuel l a w
  | 0, l, a, w, hc, h => by
    have e : Region.ready md ops l = [] := by
      rw [List.eq_nil_iff_forall_not_mem]
      intro i hi
      have := count_set l i (mem_ready.1 hi).1
      omega
    exact ⟨e, fin l a w h e⟩
  | fuel + 1, l, a, w, hc, h => by
    refine ⟨fun e => fin l a w h e, fun i hi => wpOp_mono (fun a' w' h' => ?_) (stp l a w i h hi)⟩
    have := count_set l i (mem_ready.1 hi).1
    exact wpAny_inv I fin stp fuel _ a' w' (by omega) h'

theorem wp_region_inv {P : Program} {id : Nat} {ops : Array Oper} {Q : Exit → Act → World → Prop} {a : Act} {w : World} (hm : P.follows .mixedOrders = true) (I : Array Bool → Act → World → Prop)
    (start : I (Array.replicate ops.size false) a w.drew)
    (fin : ∀ l a w, I l a w → Region.ready .any ops l = [] → Q .normal a w)
    (stp : ∀ l a w i, I l a w → i ∈ Region.ready .any ops l → wpOp P ops Q i (I (l.setIfInBounds i true)) a w) : (Code.region id ops true).wp P Q a w :=
  wp_region_any hm (wpAny_inv I fin stp _ _ _ _ (by simp) start)
end Go.Proofs.Ytfajnnibkcnkaal.region
