/-
  The draws of chapter 5's laws, given the draw of a list.
  Made from the template DrawClass2.
-/
import Derived.Test.YtdogibjgogcdkabDrawName
import Derived.Test.YtdogibjgogcdkabDrawMore
import Derived.Test.YtdogibjgogcdkabClassF
import Derived.Test.YtdogibjgogcdkabDrawReg
import Derived.Deep.RegionLaw
import Derived.Deep.OwnRows
namespace Go.Proofs.Ytdogibjgogcdkab.draw
open Go.RowKit rows ents

theorem ownE_kept {w w' : World} {base bk : Nat} {v : Value} {es : List Ent} (h : OwnE w base v es) (hb : bk < base) (hg : w.grownBy w' (some bk)) : OwnE w' base v es := by
  refine World.ownsRow.kept h hg ?_
  cases e : v.ownBlock with
  | none => exact .inl rfl
  | some k => have := World.ownsRow.lt h k e; exact .inr (fun e' => by injection e' with e'; omega)

theorem madeB_cell (w : World) (n i : Nat) (h : i < n) : (w.alloc (madeB n)).cell? ⟨w.heap.size, i, none⟩ = some (.int .u8 0) := by
  refine (World.cell?_alloc_at _ _ w.heap.size i rfl).trans ?_
  have := toList_madeCells_one (.int .u8 0) n
  rw [← Array.getElem?_toList, this, List.getElem?_replicate, if_pos h]
/-- 'string(make([]byte, n))'. -/
theorem make_str (w : World) (n : Nat) (h : n ≤ 64) (x : Int) (hx : x = (n : Int)) : ∃ s : ByteArray, s.size ≤ 64 ∧
    (Instr.makeSlice 22 (.int .i64 x) (.int .i64 x)).run Try.prog w = .ok (.slice (some ⟨w.heap.size, 0, none⟩) n n) (w.alloc (madeB n)) ∧
    (convert 22 9 (.slice (some ⟨w.heap.size, 0, none⟩) n n)).run Try.prog (w.alloc (madeB n)) = .ok (.string s) (w.alloc (madeB n)) := by
  subst hx
  refine ⟨strOfNums (List.replicate n 0), by rw [strOfNums_size, List.length_replicate]; exact h, run_make_row' (P := Try.prog) 22 5 (.int .u8 0) 1 Try.underlying22 infoB rfl .i64 .i64 n (by omega) (by omega) w, ?_⟩
  refine run_convert_bytes_arg (P := Try.prog) _ 22 5 Try.underlying22 Try.underlying5 w.heap.size 0 n n (List.replicate n 0) (List.length_replicate ..) ?_ 9 Try.underlying9
  intro i hi
  rw [Nat.zero_add, madeB_cell w n i hi, List.getD_eq_getElem?_getD, List.getElem?_replicate, if_pos hi]
  rfl

theorem drawReleased_any (L5 : ∀ {W w : World} {bk : Nat} {a : Option Addr} {len cap : Nat} {zs : List Int}, IsRow .u8 W a len cap zs → Below W.heap.size W w → W.heap.size ≤ bk → Cur w bk a len cap → Calls Try.prog 82 #[.pointer (some ⟨bk, 0, none⟩)] w fun e w' => ∃ (v : Value) (es : List Ent), Borne es ∧ es.length ≤ 64 ∧ namesLen es ≤ 65536 ∧ e = .returned v ∧ OwnE w' w.heap.size v es ∧ w.grownBy w' (some bk) ∧ Cur w' bk a len cap)
    {W w : World} {a : Option Addr} {len cap : Nat} {zs : List Int} (hr : IsRow .u8 W a len cap zs) (hW : Below W.heap.size W w) (hlen : len ≤ 4096) :
    Calls Try.prog 20 #[.slice a len cap] w fun e w' => ∃ (v : Value) (es : List Ent) (x : Int), e = .returned (.tuple #[v, .int .i64 x]) ∧ EntsAt w' v es ∧ Borne es ∧ es.length ≤ 64 ∧ namesLen es ≤ 65536 ∧ I64 x ∧ Below w.heap.size w w' := by
  go_enter Try.func20, Try.ntmps20
  go_wp2_with fail
  refine (new_any hr hW hlen).mono ?_
  rintro e w1 ⟨rfl, hc, s1, b1⟩
  have hbk : W.heap.size ≤ w.heap.size := hW.size
  have B : Below W.heap.size W w1 := hW.trans (b1.mono hW.size)
  have lbk : w.heap.size < w1.heap.size := by omega
  clear s1
  go_wp2_with fail
  refine (L5 hr B hbk hc).mono ?_
  rintro e w2 ⟨v, es, be, le, ne, rfl, O2, G2, C2⟩
  have B2 : Below W.heap.size W w2 := B.grown G2 B.size (fun k e => by cases e; exact hbk)
  have D2 : Below w.heap.size w w2 := b1.grown G2 b1.size (fun k e => by cases e; exact Nat.le_refl _)
  clear b1 B G2
  go_wp2_with fail
  refine (from_any (-1) 8 (by decide) (by decide) (by decide) hr B2 hbk C2).mono ?_
  rintro e w3 ⟨x, x0, x1, rfl, G3, C3⟩
  have O3 := ownE_kept O2 lbk G3
  have D3 : Below w.heap.size w w3 := D2.grown G3 D2.size (fun k e => by cases e; exact Nat.le_refl _)
  have H3 : Hid _ := ownE_ents O3
  have HD : Hid _ := D3
  clear O2 O3 D2 D3 G3 C2 C3
  go_wp2
  go_ret2
  exact ⟨_, es, x, rfl, H3, be, le, ne, ⟨by omega, by omega⟩, HD⟩

set_option maxHeartbeats 4000000 in
theorem drawClaimed_any (L5 : ∀ {W w : World} {bk : Nat} {a : Option Addr} {len cap : Nat} {zs : List Int}, IsRow .u8 W a len cap zs → Below W.heap.size W w → W.heap.size ≤ bk → Cur w bk a len cap → Calls Try.prog 82 #[.pointer (some ⟨bk, 0, none⟩)] w fun e w' => ∃ (v : Value) (es : List Ent), Borne es ∧ es.length ≤ 64 ∧ namesLen es ≤ 65536 ∧ e = .returned v ∧ OwnE w' w.heap.size v es ∧ w.grownBy w' (some bk) ∧ Cur w' bk a len cap)
    {W w : World} {a : Option Addr} {len cap : Nat} {zs : List Int} (hr : IsRow .u8 W a len cap zs) (hW : Below W.heap.size W w) (hlen : len ≤ 4096) :
    Calls Try.prog 18 #[.slice a len cap] w fun e w' => ∃ (v : Value) (es : List Ent) (name : ByteArray), e = .returned (.tuple #[v, .string name]) ∧ EntsAt w' v es ∧ Borne es ∧ es.length ≤ 64 ∧ namesLen es ≤ 65536 ∧ name.size ≤ 64 ∧ Below w.heap.size w w' := by
  go_enter Try.func18, Try.ntmps18
  go_wp2_with fail
  refine (new_any hr hW hlen).mono ?_
  rintro e w1 ⟨rfl, hc, s1, b1⟩
  have hbk : W.heap.size ≤ w.heap.size := hW.size
  have B : Below W.heap.size W w1 := hW.trans (b1.mono hW.size)
  have lbk : w.heap.size < w1.heap.size := by omega
  clear s1
  go_wp2_with fail
  refine (L5 hr B hbk hc).mono ?_
  rintro e w2 ⟨v, es, be, le, ne, rfl, O2, G2, C2⟩
  have B2 : Below W.heap.size W w2 := B.grown G2 B.size (fun k e => by cases e; exact hbk)
  have D2 : Below w.heap.size w w2 := b1.grown G2 b1.size (fun k e => by cases e; exact Nat.le_refl _)
  clear b1 B G2
  go_wp2_with fail
  refine (once_any 20 hr B2 hbk C2).mono ?_
  rintro e w3 ⟨b3, rfl, G3, C3⟩
  have O3 := ownE_kept O2 lbk G3
  have B3 : Below W.heap.size W w3 := B2.grown G3 B2.size (fun k e => by cases e; exact hbk)
  have D3 : Below w.heap.size w w3 := D2.grown G3 D2.size (fun k e => by cases e; exact Nat.le_refl _)
  clear O2 D2 G3 C2 B2
  cases b3
  · go_wp2_with fail
    refine (name_any hr B3 hbk C3).mono ?_
    rintro e w4 ⟨s, hs, rfl, G4, C4⟩
    have H4 : Hid _ := ownE_ents (ownE_kept O3 lbk G4)
    have D4 : Hid (Below w.heap.size w w4) := D3.grown G4 D3.size (fun k e => by cases e; exact Nat.le_refl _)
    clear O3 D3 G4 C3 C4 B3
    go_wp2
    go_ret2
    exact ⟨_, es, s, rfl, H4, be, le, ne, by omega, D4⟩
  · go_wp2_with fail
    have HO : Hid _ := O3
    have HD : Hid _ := D3
    have HB : Hid _ := B3
    clear O3 D3 B3
    go_region_law (go_simp; go_at_call 52; refine (below_any 2 hr HB.out.drew hbk (cur_drew C3)).mono ?_; rintro e w4 ⟨x, x0, _, x1, rfl, G4, C4⟩; have x2 := x1 (by decide); obtain ⟨m, rfl⟩ := Int.eq_ofNat_of_zero_le x0; obtain ⟨s, hs, MK, CV⟩ := make_str w4 (20 + m) (by omega) (IntKind.i64.wrap (20 + (m : Int))) (by rw [IntKind.wrap_i64]; omega); have H4 := ownE_kept (show OwnE w3.drew _ _ _ from HO.out) lbk G4; have D4 : Below w.heap.size w w4 := HD.out.drew.grown G4 HD.out.size (fun k e => by cases e; exact Nat.le_refl _); have H5 : Hid (EntsAt (w4.alloc (madeB (20 + m))) v es) := ownE_ents (World.ownsRow.alloc H4 _); have D5 : Hid _ := D4.alloc D4.size (madeB (20 + m)); clear x1 H4 D4 G4 C4)
    all_goals go_wp2
    all_goals exact bodyPost_ret (v := .tuple #[v, .string s]) (by simp [results, Try.results18, go_sem, Act.put]) rfl ⟨v, es, s, rfl, H5.out, be, le, ne, hs, D5.out⟩
end Go.Proofs.Ytdogibjgogcdkab.draw
