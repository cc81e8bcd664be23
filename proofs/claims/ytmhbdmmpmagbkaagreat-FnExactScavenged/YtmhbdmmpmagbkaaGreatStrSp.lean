/-
  Chapter 10 as the specification has it: Straightened.
  Made from the template StrSp.
-/
import Derived.Test.YtmhbdmmpmagbkaaGreatStrS
import Derived.Test.YtmhbdmmpmagbkaaGreatM6
namespace Go.Proofs.YtmhbdmmpmagbkaaGreat.hp
open Go.RowKit rows heads words walks
set_option maxRecDepth 100000
set_option linter.unusedVariables false
set_option linter.unusedSimpArgs false

/-- What Straightened answers. -/
def strOk (H : Hp) : Hp := if heapOk H = true then strF H ((placesR H).getD []) else hp0
theorem own0 (w : World) (b : Nat) : OwnH w b (.slice none 0 0) (.slice none 0 0) (.slice none 0 0) (.slice none 0 0) hp0 :=
  ⟨⟨World.ownsRow_nil _ _ _ _, World.ownsRow_nil _ _ _ _, World.ownsRow_nil _ _ _ _, World.ownsRow_nil _ _ _ _⟩, by simp [hblk, blk, Value.ownBlock]⟩
theorem strOk_size {H : Hp} (hs : hpSize H ≤ 1048576) : hpSize (strOk H) ≤ 1048576 := by
  unfold strOk
  split
  · rename_i h
    obtain ⟨ps, R⟩ := rt_of (ok_right h).1
    rw [R.some', Option.getD_some]
    have hA := apart_of R.some'
    have hD := dif_row hA (fun p hp => hp : ∀ p ∈ objL H ps, p ∈ objL H ps) _ (Nat.le_refl _)
    rw [List.take_length] at hD
    obtain ⟨hp', hup, hN, hnb⟩ := sim_places R.some' (fun p hp => hp : ∀ p ∈ objL H ps, p ∈ objL H ps) (H' := strH H ps) hD rfl rfl rfl rfl rfl (by simp [strH]) (by simp [strH])
    obtain ⟨_, _, r, u, _, hu, _, e⟩ := places_facts hp'
    have hl := (places_plc hp').2
    rw [e, List.length_append] at hl
    have hsn : (seenL (strH H ps)).length ≤ 500 := by
      unfold seenL
      rw [hu, Option.getD_some]
      exact Nat.le_trans (List.length_filter_le _ _) (by omega)
    have hrl := R.len
    have hdl := hD.len
    have N := (places_facts R.some').1
    have hr6 := N.roots
    have hm40 := N.mourned
    show (strRow H (objL H ps)).length + (H.roots.map (fol H)).length + (H.mourned.map (fol H)).length + (seenL (strH H ps)).length ≤ _
    rw [List.length_map, List.length_map]
    omega
  · exact Nat.zero_le _
/-- A heap of the call's own, put into a block of its own. -/
theorem ss_new {V0 : World} {b g1 g2 g3 k1 k2 k3 : Nat} {s : Value} {H : Hp} (h : OwnH V0 b (.slice (some ⟨g1, 0, none⟩) H.row.length k1) (.slice (some ⟨g2, 0, none⟩) H.roots.length k2) (.slice (some ⟨g3, 0, none⟩) H.mourned.length k3) s H) :
    Dst (V0.alloc (hpb H (.slice (some ⟨g1, 0, none⟩) H.row.length k1) (.slice (some ⟨g2, 0, none⟩) H.roots.length k2) (.slice (some ⟨g3, 0, none⟩) H.mourned.length k3) s)) V0.heap.size b g1 g2 g3 s ∧
    SS (V0.alloc (hpb H (.slice (some ⟨g1, 0, none⟩) H.row.length k1) (.slice (some ⟨g2, 0, none⟩) H.roots.length k2) (.slice (some ⟨g3, 0, none⟩) H.mourned.length k3) s)) (V0.alloc (hpb H (.slice (some ⟨g1, 0, none⟩) H.row.length k1) (.slice (some ⟨g2, 0, none⟩) H.roots.length k2) (.slice (some ⟨g3, 0, none⟩) H.mourned.length k3) s)) V0.heap.size b g1 g2 g3 k1 k2 k3 H.row.length H.roots.length H.mourned.length s (.slice none 0 0) H [] H.row H.roots H.mourned := by
  have hB : Below V0.heap.size V0 (V0.alloc (hpb H (.slice (some ⟨g1, 0, none⟩) H.row.length k1) (.slice (some ⟨g2, 0, none⟩) H.roots.length k2) (.slice (some ⟨g3, 0, none⟩) H.mourned.length k3) s)) := (Below.refl _ _).alloc (Nat.le_refl _) _
  have h' := ownH_below h hB
  have hn := h.2
  unfold hblk at hn
  rw [blk_of, blk_of, blk_of] at hn
  have l1 := (blk_lt h.1.1 g1 (by rw [blk_of]; simp)).2
  have l2 := (blk_lt h.1.2.1 g2 (by rw [blk_of]; simp)).2
  have l3 := (blk_lt h.1.2.2.1 g3 (by rw [blk_of]; simp)).2
  have l4 := blk_lt h.1.2.2.2
  simp at hn
  obtain ⟨⟨n1, n2, n3⟩, ⟨n4, n5⟩, n6, n7⟩ := hn
  refine ⟨⟨n1, n2, n4, by omega, by omega, by omega, fun k hk => ⟨fun e => n3 (e ▸ hk), fun e => n5 (e ▸ hk), fun e => n6 (e ▸ hk), fun e => by have := (l4 k hk).2; omega⟩, by simp; omega⟩, ⟨nine_new _ _ _ _ _ _, h'.1.1, h'.1.2.1, h'.1.2.2.1, h'.1.2.2.2, World.ownsRow_nil _ _ _ _, Ch.refl _ _, rfl, rfl, rfl⟩⟩
end Go.Proofs.YtmhbdmmpmagbkaaGreat.hp
