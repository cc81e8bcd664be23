/-
  A copy by make and copy: a block of its own that holds just these numbers.
  Made from the template RowsICopy.
-/
import Derived.Test.YtdogibjgogcdkabInts
import Derived.Laws.CopyOwn
import Derived.Deep.Cut
import Derived.Deep.CutRange
namespace Go.Proofs.Ytdogibjgogcdkab.rows
open Go.RowKit
set_option maxRecDepth 100000

theorem infoSize : (Try.prog.info? 2).map (·.size) = some 1 := by kernel_rfl
theorem splice_all {L cs : List Value} (h : cs.length = L.length) : splice L 0 cs = cs := by simp [splice, h]

theorem src_of {w : World} {a : Option Addr} {cap : Nat} {xs : List Int} (h : IntsAt w (.slice a xs.length cap) xs) (hp : 0 < xs.length) : ∃ ad, a = some ad ∧ ∀ j v, (cellsOf xs)[j]? = some v → w.cell? (ad.add j) = some v := by
  have h' := h
  obtain ⟨a', cap', e, _, _, _, hc⟩ := h
  injection e with e1 e2 e3
  subst e1
  obtain ⟨b, off, rfl, _⟩ := hc hp
  exact ⟨_, rfl, ints_news h'⟩

theorem own_nil (w : World) (base : Nat) : Own w base (.slice none 0 0) [] := World.ownsRow_nil _ _ _ _

theorem copied_any {w : World} {v : Value} {xs : List Int} (h : IntsAt w v xs) (hl : xs.length ≤ 1048576) :
    Calls Try.prog 62 #[v] w fun e w' => e = .returned (.slice (some ⟨w.heap.size, 0, none⟩) xs.length xs.length) ∧ Full w' w.heap.size xs ∧ Below w.heap.size w w' := by
  have h' := h
  obtain ⟨a, cap, rfl, hlc, hcm, _, hc⟩ := h
  obtain ⟨i0, hi, hz0, hz1, hz2⟩ := info_parts info
  clear hc
  go_enter Try.func62, Try.ntmps62
  go_upto_region 2 with (at_make; refine wpList_make_full _ rfl _ _ 24 rfl w.heap.size 2 i0 (.int .i64 0) 1 Try.underlying24 hi hz0 hz1 _ _ _ _ xs.length rfl rfl rfl rfl (by rw [hz2]; omega) (by unfold maxLen; omega) (Nat.le_refl _) ?_; intro w1 hown hgrow)
  have F0 : Full w1 w.heap.size (List.replicate xs.length 0) := own_full hown (by simp [cellsOf, toList_madeCells_one, Value.cells])
  have B0 : Below w.heap.size w w1 := (Below.refl _ _).grown hgrow (Nat.le_refl _) (fun k e => by cases e)
  have SRC := src_of (intsAt_below h' B0)
  have hn : (cellsOf xs).length = Nat.min xs.length xs.length := by rw [show Nat.min xs.length xs.length = xs.length from Nat.min_self _]; simp
  have hfit : 0 + (cellsOf xs).length ≤ (cellsOf (List.replicate xs.length 0)).length := by simp
  have hp0 : 0 < (cellsOf xs).length → some (⟨w.heap.size, 0, none⟩ : Addr) = some ⟨w.heap.size, 0, none⟩ ∧ ∃ ad, a = some ad ∧ ∀ j v, (cellsOf xs)[j]? = some v → w1.cell? (ad.add j) = some v := fun hp => ⟨rfl, SRC (by simpa using hp)⟩
  have HN : Hid _ := hn
  have HF : Hid _ := hfit
  have HP : Hid _ := hp0
  have HF0 : Hid _ := F0
  clear hown hgrow hn hfit hp0 F0 SRC
  go_wp2_with (refine wpList_copy_splice rfl (.tmp 7) (.tmp 8) 24 24 rfl 2 Try.underlying24 infoSize (some ⟨w.heap.size, 0, none⟩) a xs.length xs.length xs.length cap rfl rfl w.heap.size 0 (cellsOf (List.replicate xs.length 0)) 2 HF0.out (cellsOf xs) HN.out HP.out HF.out (ints_oneCell _ _) w.heap.size w B0 (Nat.le_refl _) ?_; intro w2 hF hB)
  have F2 : Full w2 w.heap.size xs := by
    have := hF.out
    rw [splice_all (by simp)] at this
    exact this
  go_ret
  exact ⟨rfl, F2, hB⟩
end Go.Proofs.Ytdogibjgogcdkab.rows
