/-
  A new cursor over the bytes of a draw: it lies in one new block.
  Made from the template DrawNew.
-/
import Derived.Test.YtcboojhabolcbaaGreatDoorDraw
import Derived.LoopTactic
import Derived.LoopN
namespace Go.Proofs.YtcboojhabolcbaaGreatDoor.draw
open Go.RowKit

theorem row_cells {W w : World} {a : Option Addr} {len cap : Nat} {zs : List Int} (hr : IsRow .u8 W a len cap zs) (hW : Below W.heap.size W w) (hp : 0 < len) :
    ∃ b off, a = some ⟨b, off, none⟩ ∧ b < W.heap.size ∧ ∀ j, j < len → ∃ z : Int, 0 ≤ z ∧ z ≤ 255 ∧ w.cell? ⟨b, off + j, none⟩ = some (.int .u8 z) := by
  rcases hr with ⟨_, h0, _⟩ | ⟨x, rfl, hl, hml, hzl, hcell, hwf⟩
  · omega
  · obtain ⟨b, off, rfl, hcell'⟩ := ints_at hcell (by omega)
    have hlt' : b < W.heap.size := World.block_lt_of_cell? W _ (hcell' 0 (by omega))
    refine ⟨b, off, rfl, hlt', fun j hj => ?_⟩
    have hzb : 0 ≤ zs.getD j 0 ∧ zs.getD j 0 ≤ 255 := by
      have := hwf (zs.getD j 0) (by simp [List.getD_eq_getElem?_getD, List.getElem?_eq_getElem (show j < zs.length by omega)])
      simpa [Lit.wf, IntKind.min, IntKind.max, IntKind.signed, IntKind.bits] using this
    exact ⟨_, hzb.1, hzb.2, (hW.cell (p := ⟨b, off + j, none⟩) hlt').trans (hcell' j (by omega))⟩

theorem cur_new (w : World) (a : Option Addr) (len cap : Nat) (h : Int) :
    Cur (w.alloc (.cells #[.slice a len cap, .int .i64 0, .int .i64 h] 99)) w.heap.size a len cap :=
  ⟨0, h, heap_alloc_new w _, Nat.zero_le _⟩

theorem new_any {W w : World} {a : Option Addr} {len cap : Nat} {zs : List Int} (hr : IsRow .u8 W a len cap zs) (hW : Below W.heap.size W w) (hlen : len ≤ 4096) :
    Calls Tryz.prog 29 #[.slice a len cap] w fun e w' => e = .returned (.pointer (some ⟨w.heap.size, 0, none⟩)) ∧ Cur w' w.heap.size a len cap ∧ w'.heap.size = w.heap.size + 1 ∧ Below w.heap.size w w' := by
  have hm := and30
  rcases Nat.eq_zero_or_pos len with h0 | hp
  · subst h0
    clear hr hW hlen
    go_enter Tryz.func29, Tryz.ntmps29
    go_wp2
    refine wp_loop_rounds 1 ?_
    rw [rounds_succ]
    go_wp2
    go_ret
    exact ⟨rfl, cur_new _ _ _ _ _, by simp, (Below.refl _ _).alloc (Nat.le_refl _) _⟩
  · obtain ⟨b, off, rfl, hb, hcells⟩ := row_cells hr hW hp
    clear hr hW
    go_enter Tryz.func29, Tryz.ntmps29
    go_wp2
    go_loop [3, 4] (fun h i => ∃ (k : Nat) (g : Int), k ≤ len ∧ 0 ≤ g ∧ g ≤ 1073741823 ∧ i = .int .i64 k ∧ h = .int .i64 g) (fun _ i => len - (intOf i).toNat)
    case atStart => exact ⟨0, _, Nat.zero_le _, by omega, by omega, rfl, rfl⟩
    case round =>
      obtain ⟨k, g, hk, hg0, hg1, rfl, rfl⟩ := hrel
      by_cases hlt : k < len
      · obtain ⟨z, hz0, hz1, hz⟩ := hcells k hlt
        clear hcells
        go_wp2
        go_round
        case rel => exact ⟨k + 1, _, by omega, by omega, by omega, by go_num, rfl⟩
        case measure => simp [intOf]; omega
      · clear hcells
        go_wp2
        go_ret
        exact ⟨rfl, cur_new _ _ _ _ _, by simp, (Below.refl _ _).alloc (Nat.le_refl _) _⟩
end Go.Proofs.YtcboojhabolcbaaGreatDoor.draw
