/-
  Chapter 5 as the program has it: a copy of a list of entries, by make and copy.
  Made from the template ClassICopy.
-/
import Derived.Test.YtdogibjgogcdkabEntsA
import Derived.Test.YtdogibjgogcdkabCopyK
import Derived.Deep.Cut
import Derived.Deep.CutRange
namespace Go.Proofs.Ytdogibjgogcdkab.ents
open Go.RowKit rows

theorem infoSizeE : (Try.prog.info? 49).map (·.size) = some 2 := by kernel_rfl
theorem splice_allK {L cs : List Value} (h : cs.length = L.length) : splice L 0 cs = cs := by simp [splice, h]
theorem srcE_of {w : World} {a : Option Addr} {cap : Nat} {es : List Ent} (h : EntsAt w (.slice a es.length cap) es) (hp : 0 < es.length) : ∃ ad, a = some ad ∧ ∀ j v, (cellsE es)[j]? = some v → w.cell? (ad.add j) = some v := by
  have h' := h
  obtain ⟨a', cap', e, _, _, _, hc⟩ := h
  injection e with e1 e2 e3
  subst e1
  obtain ⟨b, off, rfl, _⟩ := hc hp
  exact ⟨_, rfl, ents_news h'⟩
/-- What a made row holds, whatever it is: so many cells. -/
theorem own_cells {w : World} {base g n sz : Nat} {e : TypeId} {cs : List Value} (h : w.ownsRow base e sz (.slice (some ⟨g, 0, none⟩) n n) n cs) : w.heap[g]? = some (.cells cs.toArray e (0, 0)) ∧ cs.length = n * sz := by
  obtain ⟨h0, ⟨h1, _⟩ | ⟨g', cap, cur, h1, hg, hh, hle, hm, hs, ht⟩⟩ := h
  · cases h1
  · injection h1 with e1 e2 e3
    injection e1 with e1
    injection e1 with e1
    subst e1 e3
    refine ⟨?_, h0⟩
    rw [hh]
    rw [List.take_of_length_le (by simpa using Nat.le_of_eq hs)] at ht
    rw [← ht]

theorem copiedE_any {w : World} {v : Value} {es : List Ent} (h : EntsAt w v es) (hl : es.length ≤ 1048576) :
    Calls Try.prog 85 #[v] w fun e w' => e = .returned (.slice (some ⟨w.heap.size, 0, none⟩) es.length es.length) ∧ FullE w' w.heap.size es ∧ Below w.heap.size w w' := by
  have h' := h
  obtain ⟨a, cap, rfl, hlc, hcm, _, hc⟩ := h
  obtain ⟨i0, hi, hz0, hz1, hz2⟩ := info_parts infoE
  clear hc
  go_enter Try.func85, Try.ntmps85
  go_upto_region 2 with (at_make; refine wpList_make_full _ rfl _ _ 38 rfl w.heap.size 49 i0 (.agg #[.int .i64 0, .string ByteArray.empty]) 2 Try.underlying38 hi hz0 hz1 _ _ _ _ es.length rfl rfl rfl rfl (by rw [hz2]; omega) (by unfold maxLen; omega) (Nat.le_refl _) ?_; intro w1 hown hgrow)
  obtain ⟨F0, l0⟩ := own_cells hown
  have B0 : Below w.heap.size w w1 := (Below.refl _ _).grown hgrow (Nat.le_refl _) (fun k e => by cases e)
  have SRC := srcE_of (entsAt_below h' B0)
  have hn : (cellsE es).length = Nat.min es.length es.length * 2 := by rw [show Nat.min es.length es.length = es.length from Nat.min_self _, cellsE_length]
  have hp0 : 0 < (cellsE es).length → some (⟨w.heap.size, 0, none⟩ : Addr) = some ⟨w.heap.size, 0, none⟩ ∧ ∃ ad, a = some ad ∧ ∀ j v, (cellsE es)[j]? = some v → w1.cell? (ad.add j) = some v := fun hp => ⟨rfl, SRC (by rw [cellsE_length] at hp; omega)⟩
  generalize (madeCells (Value.agg #[.int .i64 0, .string ByteArray.empty]).cells (es.length * 2)).toList = L at *
  have hfit : 0 + (cellsE es).length ≤ L.length := by rw [cellsE_length, l0]; omega
  have HL : Hid ((cellsE es).length = L.length) := by show _ = _; rw [cellsE_length, l0]
  have HN : Hid _ := hn
  have HF : Hid _ := hfit
  have HP : Hid _ := hp0
  have HF0 : Hid _ := F0
  clear hown hgrow hn hfit hp0 F0 SRC l0
  go_wp2_with (refine copyk.wpList_copy_k rfl (.tmp 7) (.tmp 8) 38 38 rfl 49 2 (by decide) Try.underlying38 infoSizeE (some ⟨w.heap.size, 0, none⟩) a es.length es.length es.length cap rfl rfl w.heap.size 0 L 49 HF0.out (cellsE es) HN.out HP.out HF.out (cellsE_one _) w.heap.size w B0 (Nat.le_refl _) ?_; intro w2 hF hO hB)
  have F2 : FullE w2 w.heap.size es := by
    have := hF.out
    rw [splice_allK HL.out] at this
    exact this
  go_ret
  exact ⟨rfl, F2, hB⟩
end Go.Proofs.Ytdogibjgogcdkab.ents
