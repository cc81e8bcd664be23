/-
  Chapter 6 as the program has it: copies of lists of refs and of objects, by make and copy.
  Made from the template GraphICopy.
-/
import Derived.Test.YthldaifnlnbpgaaGraphsL
import Derived.Test.YthldaifnlnbpgaaRefsA
import Derived.Test.YthldaifnlnbpgaaCopyK
import Derived.Deep.Cut
import Derived.Deep.CutRange
namespace Go.Proofs.Ythldaifnlnbpgaa.gr
open Go.RowKit rows heads
set_option maxRecDepth 100000

theorem infoSizeR : (Try.prog.info? 47).map (·.size) = some 2 := by kernel_rfl
theorem infoSizeO : (Try.prog.info? 59).map (·.size) = some 5 := by kernel_rfl
theorem splice_allR {L cs : List Value} (h : cs.length = L.length) : splice L 0 cs = cs := by simp [splice, h]
theorem srcR_of {w : World} {a : Option Addr} {cap : Nat} {es : List Rf} (h : RefsAt w (.slice a es.length cap) es) (hp : 0 < es.length) : ∃ ad, a = some ad ∧ ∀ j v, (cellsR es)[j]? = some v → w.cell? (ad.add j) = some v := by
  have h' := h
  obtain ⟨a', cap', e, _, _, _, hc⟩ := h
  injection e with e1 e2 e3
  subst e1
  obtain ⟨b, off, rfl, _⟩ := hc hp
  exact ⟨_, rfl, refs_news h'⟩
theorem objs_news {w : World} {ad : Addr} {n cap : Nat} {ms : List MO} (h : OrowAt w (.slice (some ad) n cap) ms) : ∀ j u, (cellsO ms)[j]? = some u → w.cell? (ad.add j) = some u := by
  intro j u hj
  obtain ⟨a', cap', e, _, _, _, hc⟩ := h
  injection e with e1 e2 e3
  subst e1
  have hlt : j < ms.length * 5 := by
    have := (List.getElem?_eq_some_iff.1 hj).1
    rw [cellsO_length] at this
    exact this
  obtain ⟨b, off, e1, _, hcc⟩ := hc (by omega)
  injection e1 with e1
  subst e1
  obtain ⟨d0, d1, d2, d3, d4⟩ := hcc (j / 5) (by omega)
  obtain ⟨c0, c1, c2, c3, c4⟩ := cellsO_at ms (j / 5) (by omega)
  have hadd : (⟨b, off, none⟩ : Addr).add j = ⟨b, off + j, none⟩ := by unfold Addr.add; split <;> simp_all
  rw [hadd]
  rcases (show j % 5 = 0 ∨ j % 5 = 1 ∨ j % 5 = 2 ∨ j % 5 = 3 ∨ j % 5 = 4 by omega) with hm | hm | hm | hm | hm
  · have ej : j / 5 * 5 = j := by omega
    have eo : off + j / 5 * 5 = off + j := by omega
    rw [ej] at c0; rw [eo] at d0
    rw [c0] at hj; rw [← hj]; exact d0
  · have ej : j / 5 * 5 + 1 = j := by omega
    have eo : off + j / 5 * 5 + 1 = off + j := by omega
    rw [ej] at c1; rw [eo] at d1
    rw [c1] at hj; rw [← hj]; exact d1
  · have ej : j / 5 * 5 + 2 = j := by omega
    have eo : off + j / 5 * 5 + 2 = off + j := by omega
    rw [ej] at c2; rw [eo] at d2
    rw [c2] at hj; rw [← hj]; exact d2
  · have ej : j / 5 * 5 + 3 = j := by omega
    have eo : off + j / 5 * 5 + 3 = off + j := by omega
    rw [ej] at c3; rw [eo] at d3
    rw [c3] at hj; rw [← hj]; exact d3
  · have ej : j / 5 * 5 + 4 = j := by omega
    have eo : off + j / 5 * 5 + 4 = off + j := by omega
    rw [ej] at c4; rw [eo] at d4
    rw [c4] at hj; rw [← hj]; exact d4
theorem srcO_of {w : World} {a : Option Addr} {cap : Nat} {ms : List MO} (h : OrowAt w (.slice a ms.length cap) ms) (hp : 0 < ms.length) : ∃ ad, a = some ad ∧ ∀ j v, (cellsO ms)[j]? = some v → w.cell? (ad.add j) = some v := by
  have h' := h
  obtain ⟨a', cap', e, _, _, _, hc⟩ := h
  injection e with e1 e2 e3
  subst e1
  obtain ⟨b, off, rfl, _⟩ := hc hp
  exact ⟨_, rfl, objs_news h'⟩
/-- What a made row holds, whatever it is: so many cells. -/
theorem own_cellsR {w : World} {base g n sz : Nat} {e : TypeId} {cs : List Value} (h : w.ownsRow base e sz (.slice (some ⟨g, 0, none⟩) n n) n cs) : w.heap[g]? = some (.cells cs.toArray e (0, 0)) ∧ cs.length = n * sz := by
  obtain ⟨h0, ⟨h1, _⟩ | ⟨g', cap, cur, h1, hg, hh, hle, hm, hs, ht⟩⟩ := h
  · cases h1
  · injection h1 with e1 e2 e3
    injection e1 with e1
    injection e1 with e1
    subst e1 e3
    refine ⟨?_, h0⟩
    rw [hh]
    rw [List.take_of_length_le (by simpa using Nat.le_of_eq hs)] at ht
    rw [← ht]

theorem copiedR_any {w : World} {v : Value} {es : List Rf} (h : RefsAt w v es) (hl : es.length ≤ 1048576) :
    Calls Try.prog 54 #[v] w fun e w' => e = .returned (.slice (some ⟨w.heap.size, 0, none⟩) es.length es.length) ∧ FullR w' w.heap.size es ∧ Below w.heap.size w w' := by
  have h' := h
  obtain ⟨a, cap, rfl, hlc, hcm, _, hc⟩ := h
  obtain ⟨i0, hi, hz0, hz1, hz2⟩ := info_parts infoR
  clear hc
  go_enter Try.func54, Try.ntmps54
  go_upto_region 2 with (at_make; refine wpList_make_full _ rfl _ _ 28 rfl w.heap.size 47 i0 (.agg #[.int .i64 0, .int .i64 0]) 2 Try.underlying28 hi hz0 hz1 _ _ _ _ es.length rfl rfl rfl rfl (by rw [hz2]; omega) (by unfold maxLen; omega) (Nat.le_refl _) ?_; intro w1 hown hgrow)
  obtain ⟨F0, l0⟩ := own_cellsR hown
  have B0 : Below w.heap.size w w1 := (Below.refl _ _).grown hgrow (Nat.le_refl _) (fun k e => by cases e)
  have SRC := srcR_of (refsAt_below h' B0)
  have hn : (cellsR es).length = Nat.min es.length es.length * 2 := by rw [show Nat.min es.length es.length = es.length from Nat.min_self _, cellsR_length]
  have hp0 : 0 < (cellsR es).length → some (⟨w.heap.size, 0, none⟩ : Addr) = some ⟨w.heap.size, 0, none⟩ ∧ ∃ ad, a = some ad ∧ ∀ j v, (cellsR es)[j]? = some v → w1.cell? (ad.add j) = some v := fun hp => ⟨rfl, SRC (by rw [cellsR_length] at hp; omega)⟩
  generalize (madeCells (Value.agg #[.int .i64 0, .int .i64 0]).cells (es.length * 2)).toList = L at *
  have hfit : 0 + (cellsR es).length ≤ L.length := by rw [cellsR_length, l0]; omega
  have HL : Hid ((cellsR es).length = L.length) := by show _ = _; rw [cellsR_length, l0]
  have HN : Hid _ := hn
  have HF : Hid _ := hfit
  have HP : Hid _ := hp0
  have HF0 : Hid _ := F0
  clear hown hgrow hn hfit hp0 F0 SRC l0
  go_wp2_with (refine copyk.wpList_copy_k rfl (.tmp 7) (.tmp 8) 28 28 rfl 47 2 (by decide) Try.underlying28 infoSizeR (some ⟨w.heap.size, 0, none⟩) a es.length es.length es.length cap rfl rfl w.heap.size 0 L 47 HF0.out (cellsR es) HN.out HP.out HF.out (cellsR_one _) w.heap.size w B0 (Nat.le_refl _) ?_; intro w2 hF hO hB)
  have F2 : FullR w2 w.heap.size es := by
    have := hF.out
    rw [splice_allR HL.out] at this
    exact this
  go_ret
  exact ⟨rfl, F2, hB⟩

theorem copiedO_any {w : World} {v : Value} {ms : List MO} (h : OrowAt w v ms) (hsl : Slices ms) (hl : ms.length ≤ 1048576) :
    Calls Try.prog 55 #[v] w fun e w' => e = .returned (.slice (some ⟨w.heap.size, 0, none⟩) ms.length ms.length) ∧ FullO w' w.heap.size ms ∧ Below w.heap.size w w' := by
  have h' := h
  obtain ⟨a, cap, rfl, hlc, hcm, _, hc⟩ := h
  obtain ⟨i0, hi, hz0, hz1, hz2⟩ := info_parts infoO
  clear hc
  go_enter Try.func55, Try.ntmps55
  go_upto_region 2 with (at_make; refine wpList_make_full _ rfl _ _ 27 rfl w.heap.size 59 i0 (.agg #[.int .i64 0, .int .i64 0, .int .i64 0, .int .i64 0, .slice none 0 0]) 5 Try.underlying27 hi hz0 hz1 _ _ _ _ ms.length rfl rfl rfl rfl (by rw [hz2]; omega) (by unfold maxLen; omega) (Nat.le_refl _) ?_; intro w1 hown hgrow)
  obtain ⟨F0, l0⟩ := own_cellsR hown
  have B0 : Below w.heap.size w w1 := (Below.refl _ _).grown hgrow (Nat.le_refl _) (fun k e => by cases e)
  have SRC := srcO_of (orowAt_below h' B0)
  have hn : (cellsO ms).length = Nat.min ms.length ms.length * 5 := by rw [show Nat.min ms.length ms.length = ms.length from Nat.min_self _, cellsO_length]
  have hp0 : 0 < (cellsO ms).length → some (⟨w.heap.size, 0, none⟩ : Addr) = some ⟨w.heap.size, 0, none⟩ ∧ ∃ ad, a = some ad ∧ ∀ j v, (cellsO ms)[j]? = some v → w1.cell? (ad.add j) = some v := fun hp => ⟨rfl, SRC (by rw [cellsO_length] at hp; omega)⟩
  generalize (madeCells (Value.agg #[.int .i64 0, .int .i64 0, .int .i64 0, .int .i64 0, .slice none 0 0]).cells (ms.length * 5)).toList = L at *
  have hfit : 0 + (cellsO ms).length ≤ L.length := by rw [cellsO_length, l0]; omega
  have HL : Hid ((cellsO ms).length = L.length) := by show _ = _; rw [cellsO_length, l0]
  have HN : Hid _ := hn
  have HF : Hid _ := hfit
  have HP : Hid _ := hp0
  have HF0 : Hid _ := F0
  have H1 : Hid _ := cellsO_one hsl
  clear hown hgrow hn hfit hp0 F0 SRC l0
  go_wp2_with (refine copyk.wpList_copy_k rfl (.tmp 7) (.tmp 8) 27 27 rfl 59 5 (by decide) Try.underlying27 infoSizeO (some ⟨w.heap.size, 0, none⟩) a ms.length ms.length ms.length cap rfl rfl w.heap.size 0 L 59 HF0.out (cellsO ms) HN.out HP.out HF.out H1.out w.heap.size w B0 (Nat.le_refl _) ?_; intro w2 hF hO hB)
  have F2 : FullO w2 w.heap.size ms := by
    have := hF.out
    rw [splice_allR HL.out] at this
    exact this
  go_ret
  exact ⟨rfl, F2, hB⟩
end Go.Proofs.Ythldaifnlnbpgaa.gr
