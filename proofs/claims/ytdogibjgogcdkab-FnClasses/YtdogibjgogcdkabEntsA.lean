/-
  append on lists of entries, as one law for the walk.
  Made from the template EntsA.
-/
import Derived.Test.YtdogibjgogcdkabEntsX
import Derived.Laws.AppendOwnNone
import Derived.Maps.AppendAt
namespace Go.Proofs.Ytdogibjgogcdkab.ents
open Go.RowKit rows

theorem ents_news {w : World} {ad : Addr} {n cap : Nat} {es : List Ent} (h : EntsAt w (.slice (some ad) n cap) es) : ∀ j u, (cellsE es)[j]? = some u → w.cell? (ad.add j) = some u := by
  intro j u hj
  obtain ⟨a', cap', e, _, _, _, hc⟩ := h
  injection e with e1 e2 e3
  subst e1
  have hlt : j < es.length * 2 := by
    have := (List.getElem?_eq_some_iff.1 hj).1
    rw [cellsE_length] at this
    exact this
  obtain ⟨b, off, e1, _, hcc⟩ := hc (by omega)
  injection e1 with e1
  subst e1
  have hc := hcc (j / 2) (by omega)
  have ca := cellsE_at es (j / 2) (by omega)
  have hadd : (⟨b, off, none⟩ : Addr).add j = ⟨b, off + j, none⟩ := by unfold Addr.add; split <;> simp_all
  rw [hadd]
  rcases Nat.mod_two_eq_zero_or_one j with hm | hm
  · have ej : j = j / 2 * 2 := by omega
    rw [← ej] at hc ca
    rw [ca.1] at hj
    rw [← hj]
    exact hc.1
  · have ej : j = j / 2 * 2 + 1 := by omega
    have e2 : off + j = off + j / 2 * 2 + 1 := by omega
    rw [← ej] at ca
    rw [ca.2] at hj
    rw [← hj, e2]
    exact hc.2

/-- 'append(row, list...)' onto a row of the call's own. -/
theorem wpList_appE {wb w : World} {ops : Array Oper} {rest : List Oper} {o : Oper} {act : Act} {Q : Exit → Act → World → Prop} {a : Option Addr} {cap g n c : Nat} {es fs : List Ent}
    (hb : Below wb.heap.size wb w) (hown : w.ownsRow wb.heap.size 49 2 (.slice (some ⟨g, 0, none⟩) n c) n (cellsE es)) (h : EntsAt w (.slice a fs.length cap) fs) (hl : n + fs.length ≤ 1048576)
    (hgd : o.guard = none) (s x : Operand) (ho : o.op = .call { callee := .builtin .append, args := #[s, x], argTypes := #[38, 38] })
    (hs : act.eval s = .slice (some ⟨g, 0, none⟩) n c) (hx : act.eval x = .slice a fs.length cap)
    (hK : ∀ g' c' w1, w1.ownsRow wb.heap.size 49 2 (.slice (some ⟨g', 0, none⟩) (n + fs.length) c') (n + fs.length) (cellsE (es ++ fs)) → Below wb.heap.size wb w1 → wpList Try.prog ops Q rest (act.put o.dst (.slice (some ⟨g', 0, none⟩) (n + fs.length) c')) w1) :
    wpList Try.prog ops Q (o :: rest) act w := by
  obtain ⟨i0, hi, hz0, hz1, hz2⟩ := info_parts infoE
  have h' := h
  obtain ⟨a', cap', e, hlc, hcm, hnil, _⟩ := h
  injection e with e1 e2 e3
  subst e1 e3
  cases a with
  | none =>
    have hcap := hnil rfl
    have e : fs = [] := List.eq_nil_of_length_eq_zero (by omega)
    subst e hcap
    refine wpList_append_own_none hgd s x 38 ho _ 49 i0 2 Try.underlying38 hi _ n (cellsE es) hs hown hx ?_
    exact hK g c w (by simpa using hown) hb
  | some ad =>
    refine wpList_append_own _ hgd s x 38 ho _ 49 i0 (.agg #[.int .i64 0, .string ByteArray.empty]) 2 24 Try.underlying38 hi hz0 hz1 hz2 rfl (by decide) _ n (cellsE es) hs hown ad fs.length cap (cellsE fs) hx (cellsE_length fs) (ents_news h') (cellsE_one fs) (by unfold maxLen; omega) (by omega) hb.size ?_
    intro v' w1 hown' hgrow hnn
    have hown2 := hown'
    obtain ⟨_, ⟨h1, _⟩ | ⟨g', c', cur, h1, hg, hh, hle, hm, hsz, ht⟩⟩ := hown'
    · exact absurd (hnn.1 h1).1 (by simp)
    · subst h1
      refine hK g' c' w1 (by rw [cellsE_append]; exact hown2) (hb.grown hgrow hb.size (fun k e => ?_))
      exact (World.ownsRow.lt hown k e).1

/-- The same, where the length is written otherwise. -/
theorem wpList_appN {wb w : World} {ops : Array Oper} {rest : List Oper} {o : Oper} {act : Act} {Q : Exit → Act → World → Prop} {a : Option Addr} {cap g n c m : Nat} {es fs : List Ent} (hm : fs.length = m)
    (hb : Below wb.heap.size wb w) (hown : w.ownsRow wb.heap.size 49 2 (.slice (some ⟨g, 0, none⟩) n c) n (cellsE es)) (h : EntsAt w (.slice a m cap) fs) (hl : n + m ≤ 1048576)
    (hgd : o.guard = none) (s x : Operand) (ho : o.op = .call { callee := .builtin .append, args := #[s, x], argTypes := #[38, 38] })
    (hs : act.eval s = .slice (some ⟨g, 0, none⟩) n c) (hx : act.eval x = .slice a m cap)
    (hK : ∀ g' c' w1, w1.ownsRow wb.heap.size 49 2 (.slice (some ⟨g', 0, none⟩) (n + m) c') (n + m) (cellsE (es ++ fs)) → Below wb.heap.size wb w1 → wpList Try.prog ops Q rest (act.put o.dst (.slice (some ⟨g', 0, none⟩) (n + m) c')) w1) :
    wpList Try.prog ops Q (o :: rest) act w := by
  subst hm
  exact wpList_appE hb hown h hl hgd s x ho hs hx hK

/-- What is cut off a list from k on, and up to k. -/
theorem ents_from {w : World} {g len cap k : Nat} {es : List Ent} (h : EntsAt w (.slice (some ⟨g, 0, none⟩) len cap) es) (hl : es.length = len) (hk : k ≤ len) (ad : Option Addr) (had : ad = some ⟨g, 0, none⟩ ∧ k = len ∨ ad = some ⟨g, k * 2, none⟩) : EntsAt w (.slice ad (len - k) (cap - k)) (es.drop k) := by
  subst hl
  obtain ⟨a', cap', e, hlc, hcm, _, hc⟩ := h
  injection e with e1 e2 e3
  subst e3
  refine ⟨ad, cap - k, by rw [List.length_drop], by rw [List.length_drop]; omega, by omega, (fun hn => by rcases had with ⟨h1, _⟩ | h1 <;> rw [h1] at hn <;> cases hn), fun hp => ?_⟩
  rw [List.length_drop] at hp
  obtain ⟨b, off, hbo, hbl, hcc⟩ := hc (by omega)
  rw [← e1] at hbo
  injection hbo with hbo
  injection hbo with hb1 hb2
  subst hb1 hb2
  rcases had with ⟨_, h1⟩ | h1
  · omega
  · refine ⟨g, k * 2, h1, hbl, fun i hi => ?_⟩
    rw [List.length_drop] at hi
    have := hcc (k + i) (by omega)
    rw [show 0 + (k + i) * 2 = k * 2 + i * 2 by omega] at this
    simpa [List.getD_eq_getElem?_getD] using this
theorem ents_upto {w : World} {g len cap k : Nat} {es : List Ent} (h : EntsAt w (.slice (some ⟨g, 0, none⟩) len cap) es) (hl : es.length = len) (hk : k ≤ len) : EntsAt w (.slice (some ⟨g, 0, none⟩) k cap) (es.take k) := by
  subst hl
  obtain ⟨a', cap', e, hlc, hcm, _, hc⟩ := h
  injection e with e1 e2 e3
  subst e3
  have el : (es.take k).length = k := by rw [List.length_take]; omega
  refine ⟨_, cap, by rw [el], by omega, hcm, (fun hn => by cases hn), fun hp => ?_⟩
  obtain ⟨b, off, hbo, hbl, hcc⟩ := hc (by omega)
  rw [← e1] at hbo
  refine ⟨b, off, hbo, hbl, fun i hi => ?_⟩
  have := hcc i (by omega)
  have hik : i < k := by omega
  simpa [List.getD_eq_getElem?_getD, hik] using this

/-- An empty row just made. -/
theorem ownE_new {wb W : World} (h : Below wb.heap.size wb W) : (W.alloc (.cells #[] 49)).ownsRow wb.heap.size 49 2 (.slice (some ⟨W.heap.size, 0, none⟩) 0 0) 0 (cellsE []) :=
  ⟨rfl, .inr ⟨W.heap.size, 0, #[], rfl, h.size, heap_alloc_new W _, Nat.le_refl _, by decide, rfl, rfl⟩⟩
end Go.Proofs.Ytdogibjgogcdkab.ents
