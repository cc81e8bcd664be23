/-
  A slice of structs of a number and a text that came in, opened: its entries.
  Made from the template EntsOpen.
-/
import Derived.Test.YtdogibjgogcdkajEnts
import Derived.Test.YtdogibjgogcdkajEntsZ
import Derived.WalkKit
import Derived.ProofKit
import Derived.OpenShut
namespace Go.Proofs.Ytdogibjgogcdkaj.ents
open Go.ChangeShapes Go.WideShapes Go.ChangeAt Go.RowKit rows

section
variable {H : Type} {enc : TypeId × Value → H} {P : Program} {w : World} {base : Nat} {spare : Nat → Bool} {held : Bool}

theorem list2 {α : Type} {cs : List α} (h : cs.length = 2) : ∃ c0 c1, cs = [c0, c1] := by
  match cs, h with
  | [c0, c1], _ => exact ⟨c0, c1, rfl⟩

theorem each_to_list {n : Nat} {Q : Nat → Ent → Prop} : (∀ i, i < n → ∃ e, Q i e) → ∃ es : List Ent, es.length = n ∧ ∀ i, i < n → Q i (es.getD i entD) := by
  induction n with
  | zero => exact fun _ => ⟨[], rfl, fun i hi => by omega⟩
  | succ n ih =>
    intro h
    obtain ⟨es, hl, hq⟩ := ih (fun i hi => h i (by omega))
    obtain ⟨e, he⟩ := h n (by omega)
    refine ⟨es ++ [e], by simp [hl], fun i hi => ?_⟩
    by_cases hin : i < n
    · have := hq i hin
      rwa [List.getD_eq_getElem?_getD, List.getElem?_append_left (by omega), ← List.getD_eq_getElem?_getD]
    · obtain rfl : i = n := by omega
      rw [List.getD_eq_getElem?_getD, List.getElem?_append_right (by omega), hl]
      simpa using he

theorem open_entries {t e ti ts : TypeId} {f0 f1 : Field} {fuel : Nat} {v : Value} {a0 : Option Addr} {len cap : Nat} {x : DataW H × List MemPlace} (hv : v = .slice a0 len cap)
    (ht : P.underlying t = some (.slice e)) (hs : P.underlying e = some (.struct #[f0, f1])) (hc : P.cellsOf e = 2) (ki : P.cellsOf ti = 1) (kb : P.cellsOf ts = 1)
    (o0 : f0.offset = 0) (o1 : f1.offset = 1) (hi : P.underlying ti = some (.int .i64)) (hst : P.underlying ts = some .string) (g0 : f0.type = ti) (g1 : f1.type = ts)
    (h : DataW.trod enc P w base spare held fuel t [v] = some x) : ∃ es : List Ent, EntsAt w v es ∧ Borne es := by
  subst hv
  rcases DataW.trod_slice ht h with ⟨h0, _⟩ | ⟨a, len', cap', elems, rest, n, _, hcs, _, hb, hl, hm, hlen, hel, _, _⟩
  · simp at h0
    obtain ⟨rfl, rfl, rfl⟩ := h0
    exact ⟨[], ⟨none, 0, rfl, Nat.le_refl _, by decide, fun _ => rfl, fun hp => absurd hp (by simp)⟩, fun k hk => absurd hk (by simp)⟩
  · simp at hcs
    obtain ⟨rfl, rfl, rfl⟩ := hcs
    have each : ∀ i, i < len → ∃ y : Ent, (w.cell? (a.add (i * 2)) = some (.int .i64 y.1) ∧ w.cell? ((a.add (i * 2)).add 1) = some (.string y.2)) ∧ I64 y.1 ∧ y.2.size ≤ 9223372036854775807 := by
      intro i hil
      have hb' := hel i hil
      rw [List.getElem?_eq_getElem (by omega), hc, Option.bind_eq_some_iff] at hb'
      obtain ⟨cs', hcs, hy⟩ := hb'
      obtain ⟨_, hl2, hcell⟩ := World.cells?_some hcs
      obtain ⟨c0, c1, rfl⟩ := list2 hl2
      obtain ⟨xs, m, _, _, _, hxl, hg⟩ := DataW.trod_struct hs hy
      obtain ⟨z0, z1, rfl⟩ := list2 (show xs.length = 2 from hxl)
      have q0 : DataW.trod enc P w base spare held m ti [c0] = some z0 := by simpa [o0, ki, g0] using hg 0 f0 rfl
      have q1 : DataW.trod enc P w base spare held m ts [c1] = some z1 := by simpa [o1, kb, g1] using hg 1 f1 rfl
      obtain ⟨x0, e0, _, w0⟩ := DataW.trod_int hi q0
      obtain ⟨s, e1, _, w1⟩ := DataW.trod_string hst q1
      simp only [List.cons.injEq, and_true] at e0 e1
      subst e0 e1
      have h0 := hcell 0 (by omega)
      have h1 := hcell 1 (by omega)
      refine ⟨(x0, s), ⟨?_, h1⟩, i64_of_wf w0, w1⟩
      have e : (a.add (i * 2)).add 0 = a.add (i * 2) := by simp [Addr.add]
      rw [e] at h0
      exact h0
    obtain ⟨es, hesl, hes⟩ := each_to_list each
    refine ⟨es, ⟨some a, cap, by rw [hesl], by omega, hm, (fun hn => by cases hn), fun hp => ?_⟩, fun k hk => (hes k (by omega)).2⟩
    obtain ⟨b, off, spot⟩ := a
    have hspot : spot = none := by simpa [Addr.add] using World.cell?_spot (hes 0 (by omega)).1.1
    subst hspot
    refine ⟨b, off, rfl, World.block_lt_of_cell? w _ (hes 0 (by omega)).1.1, fun i hi => ?_⟩
    have := (hes i (by omega)).1
    rw [Go.WideShapes.add_plain] at this
    refine ⟨this.1, ?_⟩
    have h2 := this.2
    rw [Go.WideShapes.add_plain] at h2
    exact h2
end
end Go.Proofs.Ytdogibjgogcdkaj.ents
