/-
  Chapter 9 as the program has it: the first free chunk; a chunk stored into a row.
  Made from the template HeapI4.
-/
import Derived.Test.YtemlagfaaibenaaGreatHeapI3
import Derived.Test.YtemlagfaaibenaaGreatM1
namespace Go.Proofs.YtemlagfaaibenaaGreat.hp
open Go.RowKit rows heads words walks
set_option maxRecDepth 100000
set_option linter.unusedVariables false
set_option linter.unusedSimpArgs false

theorem meth_free (s f c h : Int) (p m : Bool) (ua : Option Addr) (un uc : Nat) (pl : Int) (w : World) : (method 269 46 (pdv ⟨s, f, c, h, p, m, .slice ua un uc, pl⟩) "loop.example/g00337/impl.isFree").run Tryz.prog w = .ok (108, cv s f c h p m (.slice ua un uc)) w := rfl
theorem cellsP_set : ∀ (ds : List Pd) (i : Nat) (d : Pd), (((((((((cellsP ds).set (i * 8) (.int .i64 d.s)).set (i * 8 + 1) (.int .i64 d.f)).set (i * 8 + 2) (.int .i64 d.c)).set (i * 8 + 3) (.int .i64 d.h)).set (i * 8 + 4) (.bool d.p)).set (i * 8 + 5) (.bool d.m)).set (i * 8 + 6) d.u).set (i * 8 + 7) (.int .i64 d.pl)) = cellsP (ds.set i d)
  | [], i, d => by simp [cellsP]
  | e :: ds, 0, d => by simp [cellsP]
  | e :: ds, i + 1, d => by
    rw [show (i + 1) * 8 = i * 8 + 1 + 1 + 1 + 1 + 1 + 1 + 1 + 1 by omega]
    simp [cellsP, ← cellsP_set ds i d]
theorem isFreeP_any (d : Pd) {ua : Option Addr} {un uc : Nat} (hu : d.u = .slice ua un uc) (w : World) :
    Calls Tryz.prog 108 #[cv d.s d.f d.c d.h d.p d.m d.u] w fun e w' => e = .returned (.bool (freeP d)) ∧ Below w.heap.size w w' :=
  (isFree_any d.s d.f d.c d.h d.p d.m d.u w).mono fun e w' ⟨he, hw⟩ => ⟨he, by rw [hw]; exact (Below.refl _ _).alloc (Nat.le_refl _) _⟩

set_option maxHeartbeats 8000000 in
theorem indexFree_any {w : World} {v : Value} {ds : List Pd} (h : PdsAt w v ds) (hs : SlicesP ds) (hl : ds.length ≤ 1048576) :
    Calls Tryz.prog 101 #[v, .func (.methodOf 46 "loop.example/g00337/impl.isFree") #[] #[]] w fun e w' => e = .returned (.int .i64 (idxP freeP ds)) ∧ Below w.heap.size w w' := by
  have HP : Hid _ := h
  obtain ⟨a, cap, rfl⟩ := pds_slice h
  obtain ⟨_, hlc, hcm⟩ := pds_cap h
  obtain ⟨R, hR⟩ : ∃ R, idxP freeP ds = R := ⟨_, rfl⟩
  rw [hR]
  have HR : Hid _ := hR
  have HS : Hid _ := hs
  clear hR h hs
  go_enter Tryz.func101, Tryz.ntmps101
  go_wp2_with fail
  go_loopw [8] (fun q wr => ∃ k : Nat, k ≤ ds.length ∧ q = .int .i64 (k : Int) ∧ (∀ m, m < k → freeP (ds.getD m pdD) = false) ∧ Below w.heap.size w wr) (fun q _ => ds.length - (intOf q).toNat)
  case atStart => exact ⟨0, Nat.zero_le _, rfl, fun m hm => by omega, Below.refl _ _⟩
  case round =>
    obtain ⟨k, hk, rfl, hne, Br⟩ := hrel
    have HNE : Hid _ := hne
    have HB : Hid _ := Br
    clear hne Br
    by_cases hlt : k < ds.length
    · obtain ⟨b, off, ea, hbl, k0, k1, k2, k3, k4, k5, k6, k7⟩ := pds_cell (pdsAt_below HP.out HB.out) hlt
      subst ea
      obtain ⟨ua, un, uc, hu⟩ := HS.out (ds.getD k pdD) (by rw [List.getD_eq_getElem?_getD, List.getElem?_eq_getElem hlt]; exact List.getElem_mem hlt)
      obtain ⟨x, hx⟩ : ∃ x, ds.getD k pdD = x := ⟨_, rfl⟩
      have HF1 : Hid (freeP x = false → ∀ m, m < k + 1 → freeP (ds.getD m pdD) = false) := fun e m hm => by
        by_cases e' : m = k
        · rw [e', hx]; exact e
        · exact HNE.out m (by omega)
      have HF2 : Hid (freeP x = true → R = k) := fun e => HR.out.symm.trans (idxP_at hlt (by rw [hx]; exact e) HNE.out)
      rw [hx] at k0 k1 k2 k3 k4 k5 k6 k7 hu
      clear HNE HR hx
      obtain ⟨s', f', c', h', p', m', u', pl'⟩ := x
      simp only at k0 k1 k2 k3 k4 k5 k6 k7 hu
      subst hu
      have IS := isFreeP_any (⟨s', f', c', h', p', m', .slice ua un uc, pl'⟩ : Pd) (ua := ua) (un := un) (uc := uc) rfl wr
      have MF := meth_free s' f' c' h' p' m' ua un uc pl' wr
      obtain ⟨tb, htb⟩ : ∃ tb, freeP (⟨s', f', c', h', p', m', .slice ua un uc, pl'⟩ : Pd) = tb := ⟨_, rfl⟩
      rw [htb] at IS HF1 HF2
      clear htb
      cases tb with
      | true =>
        have HF3 : Hid _ := HF2.out rfl
        clear HF1 HF2
        go_wp2_with (go_at_call 108; refine IS.mono ?_; clear IS; rintro e w3 ⟨rfl, b3⟩; have HB3 : Hid _ := HB.out.trans (b3.mono HB.out.size); clear b3)
        go_ret
        exact ⟨by rw [HF3.out]; rfl, HB3⟩
      | false =>
        have HF3 : Hid _ := HF1.out rfl
        clear HF1 HF2
        go_wp2_with (go_at_call 108; refine IS.mono ?_; clear IS; rintro e w3 ⟨rfl, b3⟩; have HB3 : Hid _ := HB.out.trans (b3.mono HB.out.size); clear b3)
        exact ⟨⟨k + 1, by omega, by go_num, HF3, HB3⟩, by simp [intOf]; omega⟩
    · have HF3 : Hid (R = -1) := HR.out.symm.trans (idxP_no (fun m hm => HNE.out m (by omega)))
      clear HNE HR
      go_wp2
      go_ret
      exact ⟨by rw [HF3.out]; rfl, HB⟩
end Go.Proofs.YtemlagfaaibenaaGreat.hp
