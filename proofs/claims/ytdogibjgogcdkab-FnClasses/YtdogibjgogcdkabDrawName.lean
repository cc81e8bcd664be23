/-
  The draw of a name: some few bytes; the cursor goes on.
  Made from the template DrawName.
-/
import Derived.Test.YtdogibjgogcdkabDrawRows
import Derived.Test.YtdogibjgogcdkabMarkText
namespace Go.Proofs.Ytdogibjgogcdkab.draw
open Go.RowKit rows ents

theorem infoB : (Try.prog.info? 5).map (fun i => (i.zero, i.size, i.bytes)) = some (some (.int .u8 0), 1, 1) := by kernel_rfl
theorem strOf_size (ns : List Int) : (strOfNums ns).size = ns.length := by
  unfold strOfNums
  simp [ByteArray.size]
def cellsB (ns : List Int) : List Value := ns.map (.int .u8)
theorem cellsB_one (ns : List Int) : ∀ v ∈ cellsB ns, v.oneCell' = true := by
  intro v hv
  obtain ⟨n, _, rfl⟩ := List.mem_map.1 hv
  rfl
theorem conv_own {w : World} {base g n c : Nat} {ns : List Int} (h : w.ownsRow base 5 1 (.slice (some ⟨g, 0, none⟩) n c) n (cellsB ns)) (hn : ns.length = n) : (convert 22 9 (.slice (some ⟨g, 0, none⟩) n c)).run Try.prog w = .ok (.string (strOfNums ns)) w := by
  refine run_convert_bytes_arg (P := Try.prog) _ 22 5 Try.underlying22 Try.underlying5 g 0 n c ns hn ?_ 9 Try.underlying9
  intro i hi
  have a0 := World.ownsRow.cellAt h i (by omega)
  rw [Nat.zero_add, a0]
  unfold cellsB
  rw [List.getElem?_map, List.getD_eq_getElem?_getD, List.getElem?_eq_getElem (show i < ns.length by omega)]
  rfl

set_option maxHeartbeats 4000000 in
theorem name_any {W w : World} {bk : Nat} {a : Option Addr} {len cap : Nat} {zs : List Int} (hr : IsRow .u8 W a len cap zs) (hW : Below W.heap.size W w) (hbk : W.heap.size ≤ bk) (hc : Cur w bk a len cap) :
    Calls Try.prog 83 #[.pointer (some ⟨bk, 0, none⟩)] w fun e w' => ∃ s : ByteArray, s.size ≤ 3 ∧ e = .returned (.string s) ∧ w.grownBy w' (some bk) ∧ Cur w' bk a len cap := by
  have step : ∀ {w' : World}, w.grownBy w' (some bk) → Below W.heap.size W w' := fun hg => hW.grown hg hW.size (fun k e => by cases e; exact hbk)
  obtain ⟨i0, hi, hz0, hz1, hz2⟩ := info_parts infoB
  have lbk := cur_lt hc
  have OWN : (w.alloc (.cells #[] 5)).ownsRow w.heap.size 5 1 (.slice (some ⟨w.heap.size, 0, none⟩) 0 0) 0 (cellsB []) := ⟨rfl, .inr ⟨w.heap.size, 0, #[], rfl, Nat.le_refl _, heap_alloc_new w _, Nat.le_refl _, by decide, rfl, rfl⟩⟩
  go_enter Try.func83, Try.ntmps83
  go_wp2_with fail
  refine (below_any 4 hr (step (grownBy_alloc (grownBy_refl _ _) _)) hbk (cur_alloc hc _)).mono ?_
  rintro e w1 ⟨n, hn0, _, hn1, rfl, hg1, hc1⟩
  have hn2 := hn1 (by decide)
  clear hn1
  have O1 : w1.ownsRow w.heap.size 5 1 (.slice (some ⟨w.heap.size, 0, none⟩) 0 0) 0 (cellsB []) := World.ownsRow.kept OWN hg1 (.inr (by simp [Value.ownBlock]; omega))
  have hg1 := grownBy_trans (grownBy_alloc (grownBy_refl _ _) _) hg1
  obtain ⟨N, rfl⟩ := Int.eq_ofNat_of_zero_le hn0
  clear OWN hn0
  go_wp2_with fail
  go_loopw [3, 4] (fun v i wr => ∃ (k n g c : Nat) (ns : List Int), v = .slice (some ⟨g, 0, none⟩) n c ∧ k ≤ N ∧ n + k = N ∧ ns.length = n ∧ i = .int .i64 (k : Int) ∧ wr.ownsRow w.heap.size 5 1 (.slice (some ⟨g, 0, none⟩) n c) n (cellsB ns) ∧ w.grownBy wr (some bk) ∧ Cur wr bk a len cap) (fun _ i _ => (intOf i).toNat)
  case atStart => exact ⟨N, 0, _, 0, [], rfl, Nat.le_refl _, by omega, rfl, rfl, O1, hg1, hc1⟩
  case round =>
    obtain ⟨k, n, g, c, ns, rfl, hk, hx, hns, rfl, Or, Gr, Cr⟩ := hrel
    by_cases hlt : 0 < k
    · have hlt' : (k : Int) > 0 := by omega
      go_wp2_with fail
      refine (below_any 3 hr (step Gr) hbk Cr).mono ?_
      rintro e w2 ⟨x, hx0, _, hx1, rfl, hg2, hc2⟩
      have hx2 := hx1 (by decide)
      clear hx1
      have I := World.ownsRow.lt Or
      have O2 := World.ownsRow.kept Or hg2 (by
        refine .inr ?_
        have := I g rfl
        simp [Value.ownBlock]; omega)
      have I2 := World.ownsRow.lt O2
      have G2 := grownBy_trans Gr hg2
      clear hg2 Or Gr Cr I
      have NEWS : ∀ j u, [Value.int .u8 (97 + x)][j]? = some u → (w2.alloc (.cells #[.int .u8 (97 + x)] 5)).cell? ((⟨w2.heap.size, 0, none⟩ : Addr).add j) = some u := by
        intro j u hj
        match j, hj with
        | 0, hj => simp at hj; subst hj; simp [Addr.add]
      have sz2 := G2.size
      go_wp2_with (at_builtin; refine wpList_append_own _ rfl _ _ 22 rfl w.heap.size 5 i0 (.int .u8 0) 1 1 Try.underlying22 hi hz0 hz1 hz2 rfl (by decide) _ n (cellsB ns) rfl (World.ownsRow.alloc O2 _) ⟨w2.heap.size, 0, none⟩ 1 1 [.int .u8 (97 + x)] rfl rfl NEWS (ints_oneCell .u8 [97 + x]) (by unfold maxLen; omega) (by omega) (by simp; omega) ?_; intro v' w3 hown hgrow hnn)
      have G3 := grownBy_own (grownBy_alloc G2 _) hgrow I2
      have C3 := cur_own (cur_alloc hc2 _) hgrow I2 lbk
      have hown2 := hown
      obtain ⟨_, ⟨_, h1⟩ | ⟨g', c', cur, h1, hg, hh, hle, hm, hsz, ht⟩⟩ := hown
      · omega
      · subst h1
        have O3 : w3.ownsRow w.heap.size 5 1 (.slice (some ⟨g', 0, none⟩) (n + 1) c') (n + 1) (cellsB (ns ++ [97 + x])) := by
          unfold cellsB
          rw [List.map_append]
          exact hown2
        clear hown2 hgrow O2 I2 G2 hc2 NEWS hnn hh hsz ht
        go_wp2
        go_roundw
        case rel => exact ⟨k - 1, n + 1, g', c', ns ++ [97 + x], rfl, by omega, by omega, by simp; omega, by go_num, O3, G3, C3⟩
        case measure => simp [intOf]; omega
    · have hlt' : ¬ (k : Int) > 0 := by omega
      have CV := conv_own Or hns
      have hs : (strOfNums ns).size ≤ 3 := by rw [strOf_size]; omega
      have HG : Hid _ := Gr
      have HC : Hid _ := Cr
      clear Gr Cr Or
      generalize strOfNums ns = s at *
      go_wp2
      go_ret
      exact ⟨_, hs, rfl, HG, HC⟩
end Go.Proofs.Ytdogibjgogcdkab.draw
