/-
  Chapter 7 as the specification has it: Reached. 'append([]int64{}, list...)': a list of its own, and nothing that there was is changed. A number into a list at a place, as the specification writes it in one statement that draws: by facts. Chapter 7 as the specification has it: l7Grieving. Chapter 7 as the specification has it: l7Mourn. Chapter 7 as the specification has it: Mourning.
-/
import Derived.Test.YtdogibjgogcdkacM15
import Derived.Test.YtdogibjgogcdkacM3
import Derived.Test.YtdogibjgogcdkacM10
import Derived.Deep.Upon
import Derived.Below
import Derived.Test.YtdogibjgogcdkacM11
import Derived.Test.YtdogibjgogcdkacM2
import Derived.Maps.AppendAt
import Derived.Test.YtdogibjgogcdkacM7
import Derived.Deep.QuietTactic
import Derived.BigQuiet
import Derived.Test.YtdogibjgogcdkacM6
namespace Go.Proofs.Ytdogibjgogcdkac.gr
open Go.RowKit rows heads
set_option maxRecDepth 100000
set_option linter.unusedVariables false

end Go.Proofs.Ytdogibjgogcdkac.gr
namespace Go.Proofs.Ytdogibjgogcdkac.rows
open Go.RowKit
set_option maxRecDepth 100000

theorem ints_len {w : World} {a : Option Addr} {n cap : Nat} {es : List Int} (h : IntsAt w (.slice a n cap) es) : es.length = n ∧ (a = none → n = 0) := by
  obtain ⟨a', cap', e, h1, _, h2, _⟩ := h
  injection e with e1 e2 e3
  subst e1 e2 e3
  exact ⟨rfl, fun ha => by have := h2 ha; omega⟩
theorem src_ints {w : World} {a : Option Addr} {n cap : Nat} {es : List Int} (h : IntsAt w (.slice a n cap) es) : Src Try.prog 1 32 (.slice a n cap) n (cellsOf es) w := by
  obtain ⟨hl, hz⟩ := ints_len h
  cases a with
  | none =>
    have hn := hz rfl
    have e : es = [] := List.eq_nil_of_length_eq_zero (by omega)
    subst e hn
    exact ⟨.inl ⟨_, Try.underlying32⟩, fun w' => by simp [Builtin.lenOf], by simp [Builtin.firstCells], by simp [Builtin.firstCells], by simp, fun u hu => by simp at hu⟩
  | some ad =>
    have hc : (cellsOf es).length = n * 1 := by simp [hl]
    exact ⟨.inl ⟨_, Try.underlying32⟩, fun w' => by simp [Builtin.lenOf], run_firstCells_some w 1 n ad n cap (cellsOf es) hc (ints_news h), run_firstCells_some w.drew 1 n ad n cap (cellsOf es) hc (ints_news (w := w.drew) h), hc, ints_oneCell _ _⟩

/-- Onto an empty list of no room. -/
theorem run_app0I {w : World} {g : Nat} {a : Option Addr} {n cap : Nat} {es : List Int} (h : IntsAt w (.slice a n cap) es) (hl : n ≤ 1048576) (hg : w.heap[g]? = some (.cells #[] 2 (0, 0))) (ty : TypeId) :
    ∃ (q c : Nat) (w' : World), (Builtin.append_ #[32, 32] ty #[.slice (some ⟨g, 0, none⟩) 0 0, .slice a n cap]).run Try.prog w = .ok (.slice (some ⟨q, 0, none⟩) n c) w' ∧ (q = g ∨ w.heap.size ≤ q) ∧ (∀ base, base ≤ q → w'.ownsRow base 2 1 (.slice (some ⟨q, 0, none⟩) n c) n (cellsOf es)) ∧ Below w.heap.size w w' := by
  obtain ⟨i0, hi, hz0, hz1, hz2⟩ := info_parts info
  have S := src_ints h
  obtain ⟨hlen, _⟩ := ints_len h
  have ho : ∀ {w' : World} {q c base : Nat} (cur : Array Value), base ≤ q → w'.heap[q]? = some (.cells cur 2 (0, 0)) → n ≤ c → c ≤ maxLen → cur.size = c * 1 → cur.toList.take (n * 1) = cellsOf es → w'.ownsRow base 2 1 (.slice (some ⟨q, 0, none⟩) n c) n (cellsOf es) := by
    intro w' q c base cur h1 h2 h3 h4 h5 h6
    exact ⟨by simp [hlen], .inr ⟨q, c, cur, rfl, h1, h2, h3, h4, h5, h6⟩⟩
  rcases Nat.eq_zero_or_pos n with h0 | hp
  · subst h0
    have e : es = [] := List.eq_nil_of_length_eq_zero hlen
    subst e
    have hr := run_append_nothing w 32 32 ty 2 i0 Try.underlying32 hi (some ⟨g, 0, none⟩) 0 0 (Nat.le_refl _) (.slice a 0 cap) (by rw [hz1]; exact S)
    exact ⟨g, 0, w, hr, .inl rfl, fun base hb => ho #[] hb hg (Nat.le_refl _) (by decide) rfl rfl, Below.refl _ _⟩
  · have hold : (Builtin.firstCells i0.size 0 (.slice (some ⟨g, 0, none⟩) 0 0)).run Try.prog w.drew = .ok ([] : List Value).toArray w.drew := run_firstCells_some w.drew i0.size 0 ⟨g, 0, none⟩ 0 0 [] (by simp) (fun j v hj => by simp at hj)
    have hr := run_append_grow_src w 32 32 ty 2 i0 (.int .i64 0) Try.underlying32 hi hz0 (some ⟨g, 0, none⟩) 0 0 [] hold (.slice a n cap) n (cellsOf es) (by rw [hz1]; exact S) (by omega) (by omega) (by rw [hz2]; exact growslice_fits (by omega) (by omega))
    have hge := grownCap_ge w (0 + n) 0 2
    have hcm : grownCap w (0 + n) 0 2 ≤ maxLen := grownCap_le_maxLen w (0 + n) 0 2 (by unfold maxLen; omega)
    rw [Nat.zero_add] at hr hge hcm
    refine ⟨w.heap.size, _, _, hr, .inr (Nat.le_refl _), fun base hb => ho _ hb (heap_alloc_new w.drew _) hge hcm ?_ ?_, ⟨rfl, rfl, rfl, by simp, fun j hj => Below.heap_alloc w.drew _ j hj⟩⟩
    · simp [Builtin.zeroCells, Value.cells, hlen]
      omega
    · simp only [List.nil_append, Array.toList_append]
      exact List.take_left' (by simp [hlen])
end Go.Proofs.Ytdogibjgogcdkac.rows
namespace Go.Proofs.Ytdogibjgogcdkac.gr
open Go.RowKit rows heads region
set_option maxRecDepth 100000
set_option linter.unusedVariables false
set_option linter.unusedSimpArgs false

theorem rq_ld (b k : Nat) (w : World) {x : Int} (h : w.cell? ⟨b, k, none⟩ = some (.int .i64 x)) : (Instr.loadAt 2 (.pointer (some ⟨b, k, none⟩))).run Try.prog w = .ok (.int .i64 x) w := by
  go_simp
theorem rq_nil (w : World) : (Instr.buildSlice 32 0 #[]).run Try.prog w = .ok (.slice (some ⟨w.heap.size, 0, none⟩) 0 0) (w.alloc (.cells #[] 2)) := by
  go_simp
theorem rq_one (x : Int) (w : World) : (Instr.buildSlice 32 1 #[(0, .int .i64 x)]).run Try.prog w = .ok (.slice (some ⟨w.heap.size, 0, none⟩) 1 1) (w.alloc (.cells #[.int .i64 x] 2)) := by
  go_simp
/-- What is known of each slot; what was used up is known no more. -/
def FP (n0 kk m : Nat) (x : Int) (T D : List Int) (lv pv rv fp : Value) (l : Array Bool) (k : Nat) (t : Value) (W : World) : Prop :=
  match k with
  | 0 => ∃ g, t = .slice (some ⟨g, 0, none⟩) 0 0 ∧ n0 ≤ g ∧ (l.getD 4 false = true ∨ W.heap[g]? = some (.cells #[] 2 (0, 0)))
  | 1 => t = lv
  | 2 => t = .int .i64 (kk : Int)
  | 3 => t = pv
  | 4 => l.getD 8 false = true ∨ W.ownsRow n0 2 1 t kk (cellsOf T)
  | 5 => t = fp
  | 6 => t = .int .i64 x
  | 7 => ∃ b, t = .slice (some ⟨b, 0, none⟩) 1 1 ∧ (l.getD 8 false = true ∨ W.heap[b]? = some (.cells #[.int .i64 x] 2 (0, 0)))
  | 8 => l.getD 10 false = true ∨ W.ownsRow n0 2 1 t (kk + 1) (cellsOf T ++ [.int .i64 x])
  | 9 => t = rv
  | 10 => W.ownsRow n0 2 1 t (kk + 1 + m) ((cellsOf T ++ [.int .i64 x]) ++ cellsOf D)
  | _ => False
theorem set_true {l : Array Bool} {k j : Nat} (h : l.getD j false = true) : (l.setIfInBounds k true).getD j false = true := by
  by_cases e : k = j
  · subst e
    have hk : k < l.size := by
      rcases Nat.lt_or_ge k l.size with q | q
      · exact q
      · simp [Array.getD, Nat.not_lt.2 q] at h
    exact listed_ne hk
  · rw [getD_other l e]; exact h
/-- What is known stays known where the world only grows. -/
theorem FP_st {n0 kk m : Nat} {x : Int} {T D : List Int} {lv pv rv fp : Value} {l : Array Bool} (k : Nat) {j : Nat} {t : Value} {W W' : World} (hb : Below W.heap.size W W') (h : FP n0 kk m x T D lv pv rv fp l j t W) : FP n0 kk m x T D lv pv rv fp (l.setIfInBounds k true) j t W' := by
  match j, h with
  | 0, ⟨g, h1, h2, h3⟩ => exact ⟨g, h1, h2, h3.imp set_true (fun e => (hb.block g (lt_of_block e)).trans e)⟩
  | 1, h => exact h
  | 2, h => exact h
  | 3, h => exact h
  | 4, h => exact h.imp set_true (fun e => row_below e hb)
  | 5, h => exact h
  | 6, h => exact h
  | 7, ⟨b, h1, h3⟩ => exact ⟨b, h1, h3.imp set_true (fun e => (hb.block b (lt_of_block e)).trans e)⟩
  | 8, h => exact h.imp set_true (fun e => row_below e hb)
  | 9, h => exact h
  | 10, h => exact row_below h hb
  | _ + 11, h => exact h.elim

set_option maxHeartbeats 8000000 in
theorem regPut {id : Nat} {ops : Array Oper} {a0 : Act} {Q : Exit → Act → World → Prop} {w : World} {s0 ls rs P7 fd kk m : Nat} {x : Int} {T D : List Int} {lv pv rv : Value} {a : Option Addr} {cap gr cr : Nat} (hg : ∀ o ∈ ops, o.guard = none) (hacyc : ∀ (k : Nat) (o : Oper), ops[k]? = some o → ∀ e ∈ o.after, e.on < k) (hn : ops.size = 12)
    (h0 : Has ops 0 (some s0) (.buildSlice 32 0 #[]) [])
    (h1 : Has ops 1 (some (s0 + 1)) (.move (.tmp ls)) [])
    (h2 : Has ops 2 (some (s0 + 2)) (.move (.tmp 8)) [])
    (h3 : Has ops 3 (some (s0 + 3)) (.slice 32 (.tmp (s0 + 1)) none (some (.tmp (s0 + 2))) none) [1, 2])
    (h4 : Has ops 4 (some (s0 + 4)) (.call { callee := .builtin .append, args := #[.tmp s0, .tmp (s0 + 3)], argTypes := #[32, 32] }) [0, 3])
    (h5 : Has ops 5 (some (s0 + 5)) (.fieldAddr 53 (.tmp 7) fd) [])
    (h6 : Has ops 6 (some (s0 + 6)) (.load 2 (.tmp (s0 + 5))) [5])
    (h7 : Has ops 7 (some (s0 + 7)) (.buildSlice 32 1 #[(0, .tmp (s0 + 6))]) [6])
    (h8 : Has ops 8 (some (s0 + 8)) (.call { callee := .builtin .append, args := #[.tmp (s0 + 4), .tmp (s0 + 7)], argTypes := #[32, 32] }) [4, 7])
    (h9 : Has ops 9 (some (s0 + 9)) (.move (.tmp rs)) [])
    (h10 : Has ops 10 (some (s0 + 10)) (.call { callee := .builtin .append, args := #[.tmp (s0 + 8), .tmp (s0 + 9)], argTypes := #[32, 32] }) [8, 9])
    (h11 : Has ops 11 (some ls) (.assign (.tmp (s0 + 10))) [0, 1, 2, 3, 4, 5, 6, 7, 8, 9, 10])
    (hls : ls < s0) (hls8 : ls ≠ 8) (hls7 : ls ≠ 7) (hrs : rs < s0) (hlr : ls ≠ rs) (h8s : 8 < s0) (sz : s0 + 10 < a0.tmps.size)
    (el : a0.tmps.getD ls undef = lv) (e8 : a0.tmps.getD 8 undef = .int .i64 (kk : Int)) (er : a0.tmps.getD rs undef = rv) (e7 : a0.tmps.getD 7 undef = .pointer (some ⟨P7, 0, none⟩))
    (hcut : ∀ W, (Instr.sliceAt 32 lv none (some (.int .i64 (kk : Int))) none).run Try.prog W = .ok pv W)
    (hfa : ∀ W, (Instr.fieldAt 53 (.pointer (some ⟨P7, 0, none⟩)) fd).run Try.prog W = .ok (.pointer (some ⟨P7, fd, none⟩)) W)
    (l7 : P7 < w.heap.size) (n7 : w.cell? ⟨P7, fd, none⟩ = some (.int .i64 x))
    (hpv : pv = .slice a kk cap) (hT : IntsAt w (.slice a kk cap) T) (hrv : rv = .slice (some ⟨gr, 0, none⟩) m cr) (hD : IntsAt w (.slice (some ⟨gr, 0, none⟩) m cr) D) (hkk : kk ≤ 1000) (hm : m ≤ 1000)
    (fin : ∀ u w' v, u ls = v → w'.ownsRow w.heap.size 2 1 v (kk + 1 + m) ((cellsOf T ++ [.int .i64 x]) ++ cellsOf D) → Below w.heap.size w w' → Q .normal (ovr (fun s => s == ls || (decide (s0 ≤ s) && decide (s ≤ s0 + 10))) a0 u) w') :
    (Code.region id ops true).wp Try.prog Q a0 w := by
  obtain ⟨i0, hi0, hz0, hz1, hz2⟩ := info_parts info
  have hin : ∀ j, j ≤ 10 → (fun s => s == ls || (decide (s0 ≤ s) && decide (s ≤ s0 + 10))) (s0 + j) = true := fun j hj => by simp; omega
  refine wp_region_facts (by kernel_rfl) (fun s => s == ls || (decide (s0 ≤ s) && decide (s ≤ s0 + 10))) hg hacyc (fun l u W => (l.getD 11 false = false ∧ Below w.heap.size w W ∧ (l.getD 10 false = true → l.getD 8 false = true) ∧ (l.getD 8 false = true → l.getD 4 false = true) ∧ u ls = lv ∧ ∀ k, k < 11 → l.getD k false = true → FP w.heap.size kk m x T D lv pv rv (.pointer (some ⟨P7, fd, none⟩)) l k (u (s0 + k)) W) ∨ ((∀ k, k < 12 → l.getD k false = true) ∧ Q .normal (ovr (fun s => s == ls || (decide (s0 ≤ s) && decide (s ≤ s0 + 10))) a0 u) W)) (.inl ⟨?_, (Below.refl _ w).drew, fun h => ?_, fun h => ?_, el, fun k hk h => ?_⟩) ?_ ?_
  · simp [Array.getD, hn]
  · simp [Array.getD, hn] at h
  · simp [Array.getD, hn] at h
  · simp [Array.getD, hn, show k < 12 by omega] at h
  · rintro l u W (⟨h1, _⟩ | ⟨_, h⟩) hA
    · rw [hA 11 (by omega)] at h1
      cases h1
    · exact h
  · rintro l u W k o (⟨l11, hB, l108, l84, hul, hF⟩ | ⟨hA, _⟩) hl hlk ho hd
    case inr =>
      have hk : k < 12 := by rw [← hn]; exact (Array.getElem?_eq_some_iff.1 ho).1
      rw [hA k hk] at hlk
      cases hlk
    have hk : k < 12 := by rw [← hn]; exact (Array.getElem?_eq_some_iff.1 ho).1
    have ev : ∀ j, j ≤ 10 → (ovr (fun s => s == ls || (decide (s0 ≤ s) && decide (s ≤ s0 + 10))) a0 u).eval (.tmp (s0 + j)) = u (s0 + j) := fun j hj => eval_in (hin j hj) (Nat.lt_of_le_of_lt (Nat.add_le_add_left hj s0) sz)
    have evo : ∀ s, s < s0 → s ≠ ls → (ovr (fun s => s == ls || (decide (s0 ≤ s) && decide (s ≤ s0 + 10))) a0 u).eval (.tmp s) = a0.tmps.getD s undef := fun s h1 h2 => eval_out (by simp [h2]; omega) (by omega)
    have mono : ∀ {W' : World} {v : Value}, k < 11 → Below W.heap.size W W' → (k = 10 → l.getD 8 false = true) → (k = 8 → l.getD 4 false = true) → FP w.heap.size kk m x T D lv pv rv (.pointer (some ⟨P7, fd, none⟩)) (l.setIfInBounds k true) k v W' → (((l.setIfInBounds k true).getD 11 false = false ∧ Below w.heap.size w W' ∧ ((l.setIfInBounds k true).getD 10 false = true → (l.setIfInBounds k true).getD 8 false = true) ∧ ((l.setIfInBounds k true).getD 8 false = true → (l.setIfInBounds k true).getD 4 false = true) ∧ upd u (s0 + k) v ls = lv ∧ ∀ j, j < 11 → (l.setIfInBounds k true).getD j false = true → FP w.heap.size kk m x T D lv pv rv (.pointer (some ⟨P7, fd, none⟩)) (l.setIfInBounds k true) j (upd u (s0 + k) v (s0 + j)) W') ∨ ((∀ j, j < 12 → (l.setIfInBounds k true).getD j false = true) ∧ Q .normal (ovr (fun s => s == ls || (decide (s0 ≤ s) && decide (s ≤ s0 + 10))) a0 (upd u (s0 + k) v)) W')) := fun {W' v} h11 hb h10 h8' hv => by
      refine .inl ⟨by rw [getD_other l (by omega)]; exact l11, hB.trans (hb.mono hB.size), fun h => ?_, fun h => ?_, by simp [upd, show ¬ ls = s0 + k by omega, hul], fun j hj hlj => ?_⟩
      · by_cases e : k = 10
        · exact set_true (h10 e)
        · rw [getD_other l e] at h; exact set_true (l108 h)
      · by_cases e : k = 8
        · exact set_true (h8' e)
        · rw [getD_other l e] at h; exact set_true (l84 h)
      · by_cases e : j = k
        · subst e
          simp only [upd, if_true]
          exact hv
        · have : ¬ s0 + j = s0 + k := by omega
          simp only [upd, this, if_false]
          rw [getD_other l (Ne.symm e)] at hlj
          exact FP_st k hb (hF j hj hlj)
    rcases (show k = 0 ∨ k = 1 ∨ k = 2 ∨ k = 3 ∨ k = 4 ∨ k = 5 ∨ k = 6 ∨ k = 7 ∨ k = 8 ∨ k = 9 ∨ k = 10 ∨ k = 11 by omega) with rfl | rfl | rfl | rfl | rfl | rfl | rfl | rfl | rfl | rfl | rfl | rfl
    · obtain ⟨hdst, op, dep⟩ := has_at h0 ho hd
      refine wp_value (by simp [execOp, op, rq_nil, Result.andThen]) ⟨_, put_in hdst (hin 0 (by decide)) u _, mono (by decide) ((Below.refl _ W).alloc (Nat.le_refl _) _) (fun e => absurd e (by decide)) (fun e => absurd e (by decide)) ⟨W.heap.size, rfl, hB.size, .inr (heap_alloc_new W _)⟩⟩
    · obtain ⟨hdst, op, dep⟩ := has_at h1 ho hd
      have y : (ovr (fun s => s == ls || (decide (s0 ≤ s) && decide (s ≤ s0 + 10))) a0 u).eval (.tmp ls) = lv := (eval_in (by simp) (by omega)).trans hul
      exact wp_value (w' := W) (by simp [execOp, op, y, Result.andThen]) ⟨_, put_in hdst (hin 1 (by decide)) u _, mono (by decide) (Below.refl _ _) (fun e => absurd e (by decide)) (fun e => absurd e (by decide)) rfl⟩
    · obtain ⟨hdst, op, dep⟩ := has_at h2 ho hd
      have y := (evo 8 (by omega) (by omega)).trans e8
      exact wp_value (w' := W) (by simp [execOp, op, y, Result.andThen]) ⟨_, put_in hdst (hin 2 (by decide)) u _, mono (by decide) (Below.refl _ _) (fun e => absurd e (by decide)) (fun e => absurd e (by decide)) rfl⟩
    · obtain ⟨hdst, op, dep⟩ := has_at h3 ho hd
      have y1 := (ev 1 (by decide)).trans (hF 1 (by decide) (dep 1 (by simp)))
      have y2 := (ev 2 (by decide)).trans (hF 2 (by decide) (dep 2 (by simp)))
      exact wp_value (w' := W) (by simp [execOp, op, y1, y2, hcut, Result.andThen]) ⟨_, put_in hdst (hin 3 (by decide)) u _, mono (by decide) (Below.refl _ _) (fun e => absurd e (by decide)) (fun e => absurd e (by decide)) rfl⟩
    · obtain ⟨hdst, op, dep⟩ := has_at h4 ho hd
      obtain ⟨g, y0, hgn, hlit⟩ := hF 0 (by decide) (dep 0 (by simp))
      have y1 : (ovr (fun s => s == ls || (decide (s0 ≤ s) && decide (s ≤ s0 + 10))) a0 u).eval (.tmp s0) = .slice (some ⟨g, 0, none⟩) 0 0 := (ev 0 (by decide)).trans y0
      have y2 := (ev 3 (by decide)).trans ((hF 3 (by decide) (dep 3 (by simp))).trans hpv)
      have hlit' : W.heap[g]? = some (.cells #[] 2 (0, 0)) := by
        rcases hlit with e | e
        · rw [hlk] at e; cases e
        · exact e
      obtain ⟨q, c, w', hr, hq, hO, hb⟩ := run_app0I (intsAt_below hT hB) (by omega) hlit' o.type
      have hqn : w.heap.size ≤ q := by
        rcases hq with e | e
        · omega
        · exact Nat.le_trans hB.size e
      exact wp_value (w' := w') (by simp [execOp, op, resolve, invoke, builtin, y1, y2, hr, Result.andThen]) ⟨_, put_in hdst (hin 4 (by decide)) u _, mono (by decide) hb (fun e => absurd e (by decide)) (fun e => absurd e (by decide)) (.inr (hO _ hqn))⟩
    · obtain ⟨hdst, op, dep⟩ := has_at h5 ho hd
      have y := (evo 7 (by omega) (by omega)).trans e7
      exact wp_value (w' := W) (by simp [execOp, op, y, hfa, Result.andThen]) ⟨_, put_in hdst (hin 5 (by decide)) u _, mono (by decide) (Below.refl _ _) (fun e => absurd e (by decide)) (fun e => absurd e (by decide)) rfl⟩
    · obtain ⟨hdst, op, dep⟩ := has_at h6 ho hd
      have y := (ev 5 (by decide)).trans (hF 5 (by decide) (dep 5 (by simp)))
      have n7' := (hB.cell (p := ⟨P7, fd, none⟩) l7).trans n7
      exact wp_value (w' := W) (by simp [execOp, op, y, rq_ld P7 fd W n7', Result.andThen]) ⟨_, put_in hdst (hin 6 (by decide)) u _, mono (by decide) (Below.refl _ _) (fun e => absurd e (by decide)) (fun e => absurd e (by decide)) rfl⟩
    · obtain ⟨hdst, op, dep⟩ := has_at h7 ho hd
      have y := (ev 6 (by decide)).trans (hF 6 (by decide) (dep 6 (by simp)))
      exact wp_value (by simp [execOp, op, y, rq_one, Result.andThen]) ⟨_, put_in hdst (hin 7 (by decide)) u _, mono (by decide) ((Below.refl _ W).alloc (Nat.le_refl _) _) (fun e => absurd e (by decide)) (fun e => absurd e (by decide)) ⟨W.heap.size, rfl, .inr (heap_alloc_new W _)⟩⟩
    · obtain ⟨hdst, op, dep⟩ := has_at h8 ho hd
      have l4 := dep 4 (by simp)
      have l7' := dep 7 (by simp)
      have l10 : l.getD 10 false = false := by
        cases e : l.getD 10 false
        · rfl
        · rw [l108 e] at hlk; cases hlk
      have r4 : W.ownsRow w.heap.size 2 1 (u (s0 + 4)) kk (cellsOf T) := by
        rcases hF 4 (by decide) l4 with e | e
        · rw [hlk] at e; cases e
        · exact e
      obtain ⟨b, y0, hlit⟩ := hF 7 (by decide) l7'
      have hlit' : W.heap[b]? = some (.cells #[.int .i64 x] 2 (0, 0)) := by
        rcases hlit with e | e
        · rw [hlk] at e; cases e
        · exact e
      have y1 := ev 4 (by decide)
      have y2 := (ev 7 (by decide)).trans y0
      obtain ⟨v', w', hr, q2, q3, _, q5⟩ := run_append_own_at (P := Try.prog) W w.heap.size 32 o.type 2 i0 (.int .i64 0) 1 8 Try.underlying32 hi0 hz0 hz1 hz2 rfl (by decide) (u (s0 + 4)) kk (cellsOf T) r4 ⟨b, 0, none⟩ 1 1 [.int .i64 x] rfl (fun j u' hj => by
        match j with
        | 0 =>
          simp at hj
          subst hj
          simp [Addr.add, World.cell?, hlit']
        | j + 1 => simp at hj) (by simp [Value.oneCell']) (by unfold maxLen; omega) (by omega) hB.size
      have hbB : Below w.heap.size w w' := hB.trans (below_ch (ch_grown q3) hB.size (fun k hk => (blk_lt r4 k hk).1))
      refine wp_value (w' := w') (v := v') (by simp [execOp, op, resolve, invoke, builtin, y1, y2, hr, Result.andThen]) ⟨_, put_in hdst (hin 8 (by decide)) u _, .inl ⟨by rw [getD_other l (by omega)]; exact l11, hbB, fun h => (by rw [getD_other l (by omega), l10] at h; cases h), fun _ => set_true l4, by simp [upd, show ¬ ls = s0 + 8 by omega, hul], fun j hj hlj => ?_⟩⟩
      by_cases e : j = 8
      · subst e
        simp only [upd, if_true]
        exact .inr q2
      · have hne : ¬ s0 + j = s0 + 8 := by omega
        simp only [upd, hne, if_false]
        rw [getD_other l (Ne.symm e)] at hlj
        have s8 : (l.setIfInBounds 8 true).getD 8 false = true := listed_ne (by omega)
        have hFj := hF j hj hlj
        rcases (show j = 0 ∨ j = 1 ∨ j = 2 ∨ j = 3 ∨ j = 4 ∨ j = 5 ∨ j = 6 ∨ j = 7 ∨ j = 9 ∨ j = 10 by omega) with rfl | rfl | rfl | rfl | rfl | rfl | rfl | rfl | rfl | rfl
        · obtain ⟨g, f1, f2, f3⟩ := hFj; exact ⟨g, f1, f2, .inl (set_true l4)⟩
        · exact hFj
        · exact hFj
        · exact hFj
        · exact .inl s8
        · exact hFj
        · exact hFj
        · obtain ⟨b', f1, f2⟩ := hFj; exact ⟨b', f1, .inl s8⟩
        · exact hFj
        · rw [l10] at hlj; cases hlj
    · obtain ⟨hdst, op, dep⟩ := has_at h9 ho hd
      have y := (evo rs (by omega) (Ne.symm hlr)).trans er
      exact wp_value (w' := W) (by simp [execOp, op, y, Result.andThen]) ⟨_, put_in hdst (hin 9 (by decide)) u _, mono (by decide) (Below.refl _ _) (fun e => absurd e (by decide)) (fun e => absurd e (by decide)) rfl⟩
    · obtain ⟨hdst, op, dep⟩ := has_at h10 ho hd
      have l8 := dep 8 (by simp)
      have l9 := dep 9 (by simp)
      have r8 : W.ownsRow w.heap.size 2 1 (u (s0 + 8)) (kk + 1) (cellsOf T ++ [.int .i64 x]) := by
        rcases hF 8 (by decide) l8 with e | e
        · rw [hlk] at e; cases e
        · exact e
      have y1 := ev 8 (by decide)
      have y2 := (ev 9 (by decide)).trans ((hF 9 (by decide) l9).trans hrv)
      have hDW := intsAt_below hD hB
      obtain ⟨hDl, _⟩ := ints_len hD
      obtain ⟨v', w', hr, q2, q3, _, q5⟩ := run_append_own_at (P := Try.prog) W w.heap.size 32 o.type 2 i0 (.int .i64 0) 1 8 Try.underlying32 hi0 hz0 hz1 hz2 rfl (by decide) (u (s0 + 8)) (kk + 1) (cellsOf T ++ [.int .i64 x]) r8 ⟨gr, 0, none⟩ m cr (cellsOf D) (by simp [hDl]) (ints_news hDW) (ints_oneCell _ _) (by unfold maxLen; omega) (by omega) hB.size
      have hbB : Below w.heap.size w w' := hB.trans (below_ch (ch_grown q3) hB.size (fun k hk => (blk_lt r8 k hk).1))
      refine wp_value (w' := w') (v := v') (by simp [execOp, op, resolve, invoke, builtin, y1, y2, hr, Result.andThen]) ⟨_, put_in hdst (hin 10 (by decide)) u _, .inl ⟨by rw [getD_other l (by omega)]; exact l11, hbB, fun h => set_true l8, fun _ => set_true (l84 l8), by simp [upd, show ¬ ls = s0 + 10 by omega, hul], fun j hj hlj => ?_⟩⟩
      by_cases e : j = 10
      · subst e
        simp only [upd, if_true]
        exact q2
      · have hne : ¬ s0 + j = s0 + 10 := by omega
        simp only [upd, hne, if_false]
        rw [getD_other l (Ne.symm e)] at hlj
        have hFj := hF j hj hlj
        have s10 : (l.setIfInBounds 10 true).getD 10 false = true := listed_ne (by omega)
        have l4 : (l.setIfInBounds 10 true).getD 8 false = true := set_true l8
        rcases (show j = 0 ∨ j = 1 ∨ j = 2 ∨ j = 3 ∨ j = 4 ∨ j = 5 ∨ j = 6 ∨ j = 7 ∨ j = 8 ∨ j = 9 by omega) with rfl | rfl | rfl | rfl | rfl | rfl | rfl | rfl | rfl | rfl
        · obtain ⟨g, f1, f2, f3⟩ := hFj
          exact ⟨g, f1, f2, .inl (set_true (l84 l8))⟩
        · exact hFj
        · exact hFj
        · exact hFj
        · exact .inl l4
        · exact hFj
        · exact hFj
        · obtain ⟨b', f1, f2⟩ := hFj; exact ⟨b', f1, .inl l4⟩
        · exact .inl s10
        · exact hFj
    · obtain ⟨hdst, op, dep⟩ := has_at h11 ho hd
      have r10 := hF 10 (by decide) (dep 10 (by simp))
      have y := ev 10 (by decide)
      refine wp_value (w' := W) (v := u (s0 + 10)) (by simp [execOp, op, y]) ⟨_, put_in hdst (by simp) u _, .inr ⟨fun j hj => ?_, fin _ W (u (s0 + 10)) (by simp [upd]) r10 hB⟩⟩
      by_cases e : j = 11
      · subst e; exact listed_ne (by omega)
      · rw [getD_other l (Ne.symm e)]
        exact dep j (by rcases (show j = 0 ∨ j = 1 ∨ j = 2 ∨ j = 3 ∨ j = 4 ∨ j = 5 ∨ j = 6 ∨ j = 7 ∨ j = 8 ∨ j = 9 ∨ j = 10 by omega) with rfl | rfl | rfl | rfl | rfl | rfl | rfl | rfl | rfl | rfl | rfl <;> decide)
end Go.Proofs.Ytdogibjgogcdkac.gr
namespace Go.Proofs.Ytdogibjgogcdkac.gr
open Go.RowKit rows heads region
set_option maxRecDepth 100000
set_option linter.unusedVariables false

/-- The Ids, the Hashes at these places. -/
abbrev idsG (os : List Ob) (ps : List Nat) : List Int := ps.map fun p => (os.getD p obD).id
abbrev hshG (os : List Ob) (ps : List Nat) : List Int := ps.map fun p => (os.getD p obD).hash
theorem rs_f0 (b : Nat) (w : World) : (Instr.fieldAt 53 (.pointer (some ⟨b, 0, none⟩)) 0).run Try.prog w = .ok (.pointer (some ⟨b, 0, none⟩)) w := by
  go_simp
theorem rs_f3 (b : Nat) (w : World) : (Instr.fieldAt 53 (.pointer (some ⟨b, 0, none⟩)) 3).run Try.prog w = .ok (.pointer (some ⟨b, 3, none⟩)) w := by
  go_simp
theorem rs_cut {g n c i : Nat} (hi : (i : Int) ≤ n) (hc : (n : Int) ≤ c) (hm : c ≤ 9223372036854775807) (w : World) : (Instr.sliceAt 32 (.slice (some ⟨g, 0, none⟩) n c) none (some (.int .i64 (i : Int))) none).run Try.prog w = .ok (.slice (some ⟨g, 0, none⟩) i c) w := by
  have h2 : (i : Int) ≤ c := by omega
  go_simp

set_option maxHeartbeats 16000000 in
theorem l7Grieving_any {w : World} {o r m : Value} {ms : List MO} {G : Gr} (h : GraphAt w o r m ms G) (hok : gOk G = true) {ps : List Nat} (hz : IsG G ps) :
    Calls Try.prog 68 #[gv o r m G.next G.seed] w fun e w' => ∃ v, e = .returned v ∧ Own w' w.heap.size v (idsG G.objs ps) ∧ Below w.heap.size w w' := by
  obtain ⟨f, hf⟩ : ∃ f : Nat → Bool, ∀ p, f p = true ↔ Grv G p := by
    classical
    exact ⟨fun p => decide (Grv G p), fun p => by simp⟩
  have hps : ps = sortG G.objs f G.objs.length := isG_unique hz (isG_sort hok fun p _ => hf p)
  obtain ⟨a1, n1, c1, a2, n2, c2, a3, n3, c3, e1, e2, e3⟩ := graphAt_slices h
  subst e1 e2 e3
  obtain ⟨ao, co, eo, _⟩ := h.2.1.1
  injection eo with e1 e2 e3
  subst e1 e2 e3
  obtain ⟨ys, hy⟩ := isR_ex G
  have B : Below w.heap.size w (w.alloc (gb (.slice a1 ms.length c1) (.slice a2 n2 c2) (.slice a3 n3 c3) G.next G.seed)) := (Below.refl _ w).alloc (Nat.le_refl _) _
  have T := five_new w 27 (.slice a1 ms.length c1) (.slice a2 n2 c2) (.slice a3 n3 c3) (.int .i64 G.next) (.int .i64 G.seed)
  have L7 := l7Reached_any (graphAt_below h B) hok hy
  have hlen := graphAt_len h
  have hms : ms.length ≤ 200 := by rw [hlen]; exact (gOk_len hok).1
  have hyl : ys.length ≤ 200 := Nat.le_trans (isR_len hy) (gOk_len hok).1
  have HG : Hid _ := h
  have HOK : Hid _ := hok
  have HF : Hid _ := hf
  have HPS : Hid _ := hps
  have HY : Hid _ := hy
  have HB : Hid _ := B
  have HT : Hid _ := T
  have HLEN : Hid _ := hlen
  clear h hok hf hps hy B T hlen hz
  go_enter Try.func68, Try.ntmps68
  go_wp2_with fail
  generalize hX : (w.alloc (gb (.slice a1 ms.length c1) (.slice a2 n2 c2) (.slice a3 n3 c3) G.next G.seed)) = X at *
  clear hX
  refine L7.mono ?_
  rintro e w1 ⟨v1, rfl, O1, b1⟩
  obtain ⟨ra, rc, hrv⟩ : ∃ a c, v1 = .slice a ys.length c := by
    obtain ⟨a, c, e, _⟩ := own_ints O1
    exact ⟨a, c, e⟩
  subst hrv
  have B1 := HB.out.trans (b1.mono HB.out.size)
  have T1 := five_below HT.out b1
  have N2 : Below w1.heap.size w1 ((w1.alloc (.cells #[] 2)).alloc (.cells #[] 2)) := ((Below.refl _ _).alloc (Nat.le_refl _) _).alloc (by simp) _
  have HR2 : Hid _ := own_ints (own_below O1 N2)
  have HB2 : Hid _ := B1.trans (N2.mono B1.size)
  have HT2 : Hid _ := five_below T1 N2
  have HO4 : Hid (Own ((w1.alloc (.cells #[] 2)).alloc (.cells #[] 2)) w.heap.size (.slice (some ⟨w1.heap.size, 0, none⟩) 0 0) []) := ⟨rfl, .inr ⟨w1.heap.size, 0, #[], rfl, B1.size, (Below.heap_alloc _ _ _ (by simp)).trans (heap_alloc_new w1 _), Nat.le_refl _, by decide, rfl, rfl⟩⟩
  have HO5 : Hid (Own ((w1.alloc (.cells #[] 2)).alloc (.cells #[] 2)) w.heap.size (.slice (some ⟨w1.heap.size + 1, 0, none⟩) 0 0) []) := ⟨rfl, .inr ⟨w1.heap.size + 1, 0, #[], rfl, Nat.le_succ_of_le B1.size, at_newS (by simp), Nat.le_refl _, by decide, rfl, rfl⟩⟩
  clear L7 HB HT B1 T1 N2 O1 b1
  go_wp2_with fail
  generalize hX2 : ((w1.alloc (.cells #[] 2)).alloc (.cells #[] 2)) = X2 at *
  clear hX2
  go_loopw [4, 5, 6] (fun v u p wr => ∃ (k : Nat) (g4 c4 g5 c5 : Nat), k ≤ ms.length ∧ p = .int .i64 k ∧ v = .slice (some ⟨g4, 0, none⟩) (sortG G.objs f k).length c4 ∧ u = .slice (some ⟨g5, 0, none⟩) (sortG G.objs f k).length c5 ∧ Own wr w.heap.size (.slice (some ⟨g4, 0, none⟩) (sortG G.objs f k).length c4) (idsG G.objs (sortG G.objs f k)) ∧ Own wr w.heap.size (.slice (some ⟨g5, 0, none⟩) (sortG G.objs f k).length c5) (hshG G.objs (sortG G.objs f k)) ∧ Below X2.heap.size X2 wr) (fun _ _ p _ => ms.length - (intOf p).toNat)
  case atStart => exact ⟨0, _, _, _, _, Nat.zero_le _, rfl, rfl, rfl, HO4.out, HO5.out, Below.refl _ _⟩
  case round =>
    clear HO4 HO5
    obtain ⟨k, g4, c4, g5, c5, hk, rfl, rfl, rfl, hO4, hO5, hB⟩ := hrel
    have HO4 : Hid _ := hO4
    have HO5 : Hid _ := hO5
    have HBX : Hid _ := hB
    obtain ⟨q0, _⟩ := five_cells (five_below HT2.out hB)
    by_cases hlt : k < ms.length
    · obtain ⟨ao, co, eo, _, _, _, hco⟩ := orowAt_below HG.out.2.1.1 (HB2.out.trans (hB.mono HB2.out.size))
      injection eo with e1 e2 e3
      subst e1 e3
      obtain ⟨b1, off1, rfl, hb1, hcc1⟩ := hco (by omega)
      obtain ⟨x0, x1, x2, x3, x4⟩ := hcc1 k hlt
      have hmo : (ms.getD k moD).abs = G.objs.getD k obD := graphAt_get HG.out k
      have hsv := refsAt_below (HG.out.2.1.2 _ (mem_getD hlt)) (HB2.out.trans (hB.mono HB2.out.size))
      obtain ⟨sa, sc, hsl, _⟩ := id hsv
      have hkG : k < G.objs.length := by rw [← HLEN.out]; exact hlt
      have hIdM : ∀ q, q < G.objs.length → ((G.objs.getD q obD).id ∈ ys ↔ Rch G q) := fun q hq => by
        rw [isR_mem HY.out]
        constructor
        · rintro ⟨p, hp, e⟩
          rw [rise_inj (gOk_rise HOK.out) (rch_lt hp) hq e] at hp
          exact hp
        · intro hp; exact ⟨q, hp, rfl⟩
      have HKEY : Hid ((ms.getD k moD).fmt = 2 → 0 < (ms.getD k moD).slots.length) := fun e => by
        have h1 := (right_key HOK.out hkG (by rw [← hmo]; exact e)).1
        rw [← hmo] at h1
        exact h1
      have HIN : Hid ((ms.getD k moD).id ∈ ys ↔ Rch G k) := by
        have := hIdM k hkG
        rw [← hmo] at this
        exact this
      have HFM : Hid ((G.objs.getD k obD).fmt = (ms.getD k moD).fmt) := by show _ = _; rw [← hmo]; rfl
      have HHS : Hid ((G.objs.getD k obD).hash = (ms.getD k moD).hash) := by show _ = _; rw [← hmo]; rfl
      have HID : Hid ((G.objs.getD k obD).id = (ms.getD k moD).id) := by show _ = _; rw [← hmo]; rfl
      have HKX : Hid ((ms.getD k moD).fmt = 2 → ((ms.getD k moD).slots.getD 0 refD).1 = 2 → ∃ q, awt G.objs (G.objs.getD k obD) = some q ∧ (((ms.getD k moD).slots.getD 0 refD).2 ∈ ys ↔ Rch G q)) := fun e1 e2 => by
        have hmm := (right_key HOK.out hkG (by rw [← hmo]; exact e1)).2
        have hl := right_ref HOK.out (.inr ⟨k, hkG, hmm⟩) (by rw [← hmo]; exact e2)
        rw [← hmo] at hl
        refine ⟨ledP G.objs ((ms.getD k moD).slots.getD 0 refD), ?_, ?_⟩
        · unfold awt
          rw [← hmo]
          exact if_pos ⟨e1, hl.1⟩
        · have := hIdM _ (ledP_lt hl.1)
          rw [hl.2] at this
          exact this
      have HKN : Hid (¬ ((ms.getD k moD).slots.getD 0 refD).1 = 2 → awt G.objs (G.objs.getD k obD) = none) := fun e => by
        unfold awt
        rw [if_neg]
        rintro ⟨_, h2⟩
        rw [← hmo] at h2
        exact e (led_two h2)
      clear hmo hco hcc1 hIdM
      generalize ms.getD k moD = mo at *
      obtain ⟨mi, mc, mf, mh, msv, msl⟩ := mo
      simp only at x0 x1 x2 x3 x4 hsl hsv HKEY HIN HFM HHS HID HKX HKN
      subst hsl
      have BY : Below wr.heap.size wr (wr.alloc (ob ⟨mi, mc, mf, mh, .slice sa msl.length sc, msl⟩)) := (Below.refl _ _).alloc (Nat.le_refl _) _
      have TY := five_new wr 53 (.int .i64 mi) (.int .i64 mc) (.int .i64 mf) (.int .i64 mh) (.slice sa msl.length sc)
      obtain ⟨t0, t1, t2, t3, t4, _⟩ := five_cells TY
      have HTY : Hid _ := TY
      have HBY : Hid (Below X2.heap.size X2 (wr.alloc (ob ⟨mi, mc, mf, mh, .slice sa msl.length sc, msl⟩))) := hB.trans (BY.mono hB.size)
      have HRY : Hid _ := intsAt_below HR2.out HBY.out
      have HY4 : Hid _ := own_below hO4 BY
      have HY5 : Hid _ := own_below hO5 BY
      have HNO : Hid (f k = false → sortG G.objs f (k + 1) = sortG G.objs f k) := fun e => by
        show (if f k = true then _ else _) = _
        rw [e]
        rfl
      have HYES : Hid (f k = true → sortG G.objs f (k + 1) = insG G.objs k (sortG G.objs f k)) := fun e => by
        show (if f k = true then _ else _) = _
        rw [if_pos e]
      have hsn := len_sortG G.objs f k
      have HFK : Hid _ := HF.out k
      have HSVY : Hid _ := refsAt_below hsv BY
      clear hO4 hO5 hB hsv BY TY e2 hkG
      obtain ⟨ss, hss⟩ : ∃ ss, sortG G.objs f k = ss := ⟨_, rfl⟩
      rw [hss] at hsn
      simp only [hss] at HO4 HO5 HY4 HY5 HNO HYES ⊢
      have HSS : Hid _ := hss
      clear hss
      have HSKIP : Hid (f k = false → ∃ (k' g4' c4' g5' c5' : Nat), k' ≤ ms.length ∧ Value.int .i64 ((k : Int) + 1) = .int .i64 k' ∧ Value.slice (some ⟨g4, 0, none⟩) ss.length c4 = .slice (some ⟨g4', 0, none⟩) (sortG G.objs f k').length c4' ∧ Value.slice (some ⟨g5, 0, none⟩) ss.length c5 = .slice (some ⟨g5', 0, none⟩) (sortG G.objs f k').length c5' ∧ Own (wr.alloc (ob ⟨mi, mc, mf, mh, .slice sa msl.length sc, msl⟩)) w.heap.size (.slice (some ⟨g4', 0, none⟩) (sortG G.objs f k').length c4') (idsG G.objs (sortG G.objs f k')) ∧ Own (wr.alloc (ob ⟨mi, mc, mf, mh, .slice sa msl.length sc, msl⟩)) w.heap.size (.slice (some ⟨g5', 0, none⟩) (sortG G.objs f k').length c5') (hshG G.objs (sortG G.objs f k')) ∧ Below X2.heap.size X2 (wr.alloc (ob ⟨mi, mc, mf, mh, .slice sa msl.length sc, msl⟩))) := fun e => ⟨k + 1, g4, c4, g5, c5, by omega, by simp, by rw [HNO.out e], by rw [HNO.out e], by rw [HNO.out e]; exact HY4.out, by rw [HNO.out e]; exact HY5.out, HBY.out⟩
      by_cases hf2 : mf = 2
      · subst hf2
        by_cases hi1 : mi ∈ ys
        · have HS1 := l1Has_any HRY.out (by omega) mi
          rw [decide_eq_true hi1] at HS1
          have h0 := HKEY.out rfl
          obtain ⟨a', cap', e, _, _, _, hc⟩ := id HSVY.out
          injection e with e1 e2 e3
          subst e1 e3
          obtain ⟨b0, off0, rfl, hb0, hcc0⟩ := hc h0
          obtain ⟨r0, r1⟩ := hcc0 0 h0
          rw [show off0 + 0 * 2 = off0 by omega] at r0 r1
          clear hc hcc0 e2
          have h1n : (1 : Int) ≤ (msl.length : Int) := by omega
          obtain ⟨e0, he0⟩ : ∃ e0, msl.getD 0 refD = e0 := ⟨_, rfl⟩
          rw [he0] at r0 r1
          rw [he0] at HKX HKN
          obtain ⟨k0, nk0⟩ := e0
          simp only at r0 r1 HKX HKN
          by_cases hk2 : k0 = 2
          · subst hk2
            obtain ⟨qq, haw, hqq⟩ := HKX.out (by trivial) (by trivial)
            have HS2 := l1Has_any HRY.out (by omega) nk0
            by_cases hi2 : nk0 ∈ ys
            · rw [decide_eq_true hi2] at HS2
              have hfk : f k = false := by
                cases e : f k
                · rfl
                · obtain ⟨_, _, q', h1, h2⟩ := HFK.out.1 e
                  rw [haw] at h1
                  injection h1 with h1
                  exact absurd (hqq.1 hi2) (by rw [h1]; exact h2)
              have HX : Hid _ := HSKIP.out hfk
              clear HSKIP HNO HYES HKX HKN HIN hqq haw hfk he0
              go_wp2_with (first | (have hh := HS1; clear hh; go_at_call 67; refine HS1.mono ?_; clear HS1; rintro e w4 ⟨rfl, hw4⟩; rw [hw4]; clear hw4) | (go_at_call 67; refine HS2.mono ?_; clear HS2; rintro e w4 ⟨rfl, hw4⟩; rw [hw4]; clear hw4))
              exact ⟨HX.out, by simp [intOf]; omega⟩
            · rw [decide_eq_false hi2] at HS2
              have hfk : f k = true := HFK.out.2 ⟨HIN.out.1 hi1, HFM.out, qq, haw, fun e => hi2 (hqq.2 e)⟩
              have HX : Hid _ := HYES.out hfk
              clear HSKIP HNO HYES HKX HKN HIN hqq haw hfk he0
              go_wp2_with (first | (have hh := HS1; clear hh; go_at_call 67; refine HS1.mono ?_; clear HS1; rintro e w4 ⟨rfl, hw4⟩; rw [hw4]; clear hw4) | (go_at_call 67; refine HS2.mono ?_; clear HS2; rintro e w4 ⟨rfl, hw4⟩; rw [hw4]; clear hw4))
              generalize hYY : (wr.alloc (ob ⟨mi, mc, 2, mh, .slice (some ⟨b0, off0, none⟩) msl.length sc, msl⟩)) = Y at *
              generalize hP7 : wr.heap.size = P7 at *
              clear hYY t0 t1 t2 t4 q0 x0 x1 x2 x3 x4
              obtain ⟨a5, cp5, e5, hlc5, hcm5, _, hc5⟩ := own_ints HY5.out
              rw [List.length_map] at e5 hlc5
              injection e5 with e51 e52 e53
              subst e51 e53
              obtain ⟨a4, cp4, e4, hlc4, hcm4, _, _⟩ := own_ints HY4.out
              rw [List.length_map] at e4 hlc4
              injection e4 with e41 e42 e43
              subst e41 e43
              have hcm5' : c5 ≤ 9223372036854775807 := hcm5
              have hcm4' : c4 ≤ 9223372036854775807 := hcm4
              have HC5 : Hid _ := hc5
              clear hc5 e52 e42
              go_loopw [8] (fun p wz => ∃ i : Nat, i ≤ ss.length ∧ p = .int .i64 i ∧ (∀ j, j < i → (hshG G.objs ss).getD j 0 ≤ mh) ∧ ∃ q, wz = Y.drewN q) (fun p _ => ss.length - (intOf p).toNat)
              case atStart => exact ⟨0, Nat.zero_le _, rfl, fun j hj => by omega, 0, rfl⟩
              case round =>
                obtain ⟨i, hi, rfl, hall, q, hwz⟩ := hrel
                subst hwz
                by_cases hgo : i < ss.length ∧ (hshG G.objs ss).getD i 0 ≤ mh
                · obtain ⟨hil, hle⟩ := hgo
                  obtain ⟨b5, o5, e6, _, hcc5⟩ := HC5.out (by rw [List.length_map]; omega)
                  injection e6 with e6
                  injection e6 with e61 e62
                  subst e61 e62
                  have cc := hcc5 i (by rw [List.length_map]; exact hil)
                  rw [Nat.zero_add] at cc
                  have HV : Hid (∀ j, j < i + 1 → (hshG G.objs ss).getD j 0 ≤ mh) := fun j hj => by
                    by_cases e : j = i
                    · rw [e]; exact hle
                    · exact hall j (by omega)
                  clear hcc5 hall
                  generalize (hshG G.objs ss).getD i 0 = hh at *
                  have hil' : (i : Int) < (ss.length : Int) := by omega
                  go_wp2_with fail
                  go_quiet (fail)
                  go_wp2
                  exact ⟨⟨i + 1, by omega, by go_num, HV, _, rfl⟩, by simp [intOf]; omega⟩
                · by_cases hcase : i < ss.length
                  · have hle : ¬ (hshG G.objs ss).getD i 0 ≤ mh := fun e => hgo ⟨hcase, e⟩
                    obtain ⟨b5, o5, e6, _, hcc5⟩ := HC5.out (by rw [List.length_map]; omega)
                    injection e6 with e6
                    injection e6 with e61 e62
                    subst e61 e62
                    have cc := hcc5 i (by rw [List.length_map]; exact hcase)
                    rw [Nat.zero_add] at cc
                    have HNLE : Hid _ := hle
                    clear hcc5
                    generalize hhx : (hshG G.objs ss).getD i 0 = hh at *
                    have hil' : (i : Int) < (ss.length : Int) := by omega
                    go_wp2_with fail
                    go_quiet (fail)
                    have HP4 : Hid (∀ n o c, (o = i ∧ c = c4 - i ∨ i = ss.length ∧ c4 = i ∧ o = 0 ∧ c = 0) → IntsAt (Y.drewN n) (.slice (some ⟨g4, o, none⟩) (ss.length - i) c) ((idsG G.objs ss).drop i)) := by
                      intro n o c h
                      rcases h with ⟨rfl, rfl⟩ | ⟨h1, h2, rfl, rfl⟩
                      · exact ints_drop (w := Y) (b := g4) (off := 0) (n := ss.length) (cap := c4) (own_ints HY4.out) hi (fun h => by rw [Nat.zero_add]) (fun h => by cases h)
                      · have := ints_drop (w := Y) (b := g4) (off := 0) (n := ss.length) (cap := c4) (k := i) (own_ints HY4.out) hi (a := some ⟨g4, 0, none⟩) (fun h => by omega) (fun h => by cases h)
                        rw [show c4 - i = 0 by omega] at this
                        exact this
                    have HP5 : Hid (∀ W o c, Below Y.heap.size Y W → (o = i ∧ c = c5 - i ∨ i = ss.length ∧ c5 = i ∧ o = 0 ∧ c = 0) → IntsAt W (.slice (some ⟨g5, o, none⟩) (ss.length - i) c) ((hshG G.objs ss).drop i)) := by
                      intro W o c hW h
                      refine intsAt_below ?_ hW
                      rcases h with ⟨rfl, rfl⟩ | ⟨h1, h2, rfl, rfl⟩
                      · exact ints_drop (w := Y) (b := g5) (off := 0) (n := ss.length) (cap := c5) (own_ints HY5.out) hi (fun h => by rw [Nat.zero_add]) (fun h => by cases h)
                      · have := ints_drop (w := Y) (b := g5) (off := 0) (n := ss.length) (cap := c5) (k := i) (own_ints HY5.out) hi (a := some ⟨g5, 0, none⟩) (fun h => by omega) (fun h => by cases h)
                        rw [show c5 - i = 0 by omega] at this
                        exact this
                    have HQ4 : Hid (∀ n, IntsAt (Y.drewN n) (.slice (if c4 = i then (some ⟨g4, 0, none⟩ : Option Addr) else some ⟨g4, i, none⟩) (ss.length - i) (c4 - i)) ((idsG G.objs ss).drop i)) := fun n => ints_drop (w := Y) (b := g4) (off := 0) (n := ss.length) (cap := c4) (own_ints HY4.out) hi (fun h => by rw [if_neg (by omega), Nat.zero_add]) (fun h => by split at h <;> cases h)
                    have HQ5 : Hid (∀ W, Below Y.heap.size Y W → IntsAt W (.slice (if c5 = i then (some ⟨g5, 0, none⟩ : Option Addr) else some ⟨g5, i, none⟩) (ss.length - i) (c5 - i)) ((hshG G.objs ss).drop i)) := fun W hW => intsAt_below (ints_drop (w := Y) (b := g5) (off := 0) (n := ss.length) (cap := c5) (own_ints HY5.out) hi (fun h => by rw [if_neg (by omega), Nat.zero_add]) (fun h => by split at h <;> cases h)) hW
                    go_wp2_with (first
                      | (refine wpList_copiedN (n := ss.length - i) (xs := (idsG G.objs ss).drop i) ?_ (by omega) rfl (.tmp 69) (.tmp 72) rfl rfl rfl ?_; (first | exact HQ4.out _ | exact HP4.out _ _ _ (Or.inl ⟨rfl, rfl⟩) | exact HP4.out _ _ _ (Or.inr ⟨by omega, by omega, rfl, rfl⟩)); intro ga ca wa hga hOa hBa; (try generalize (if c4 = i then (some ⟨g4, 0, none⟩ : Option Addr) else some ⟨g4, i, none⟩) = z4); have BYa : Below Y.heap.size Y wa := ⟨hBa.os, hBa.tape, hBa.output, hBa.size, hBa.block⟩; have HBYa : Hid _ := BYa; have HRa : Hid (IntsAt wa (.slice (some ⟨ga, 0, none⟩) (ss.length - i) ca) ((idsG G.objs ss).drop i)) := own_ints (own_row hOa (by simp)); clear hOa hBa hga BYa)
                      | (refine wpList_copiedN (n := ss.length - i) (xs := (hshG G.objs ss).drop i) ?_ (by omega) rfl (.tmp 74) (.tmp 77) rfl rfl rfl ?_; (first | exact HQ5.out _ HBYa.out | exact HP5.out _ _ _ HBYa.out (Or.inl ⟨rfl, rfl⟩) | exact HP5.out _ _ _ HBYa.out (Or.inr ⟨by omega, by omega, rfl, rfl⟩)); intro gb' cb wb hgb hOb hBb; (try generalize (if c5 = i then (some ⟨g5, 0, none⟩ : Option Addr) else some ⟨g5, i, none⟩) = z5); have HBYb : Hid (Below Y.heap.size Y wb) := HBYa.out.trans (hBb.mono HBYa.out.size); have HRa2 : Hid _ := intsAt_below HRa.out hBb; have HRb : Hid (IntsAt wb (.slice (some ⟨gb', 0, none⟩) (ss.length - i) cb) ((hshG G.objs ss).drop i)) := own_ints (own_row hOb (by simp)); clear hOb hBb hgb))
                    clear HQ4 HQ5 HP4 HP5
                    have TYb := five_below HTY.out HBYb.out
                    have l7 := lt_of_block TYb
                    have f0 := (five_cells TYb).1
                    have szb : w.heap.size ≤ wb.heap.size := Nat.le_trans HB2.out.size (Nat.le_trans HBY.out.size HBYb.out.size)
                    have hT4 := intsAt_below (ints_take (own_ints HY4.out) hi) HBYb.out
                    go_cut [4] from 15 to 100 (fun v wx => ∃ g c : Nat, v = .slice (some ⟨g, 0, none⟩) (ss.length + 1) c ∧ Hid (Own wx w.heap.size (.slice (some ⟨g, 0, none⟩) (ss.length + 1) c) ((idsG G.objs ss).take i ++ mi :: (idsG G.objs ss).drop i)) ∧ Hid (Below wb.heap.size wb wx))
                    case first =>
                      refine regPut (s0 := 79) (ls := 4) (rs := 9) (P7 := P7) (fd := 0) (kk := i) (m := ss.length - i) (x := mi) (T := (idsG G.objs ss).take i) (D := (idsG G.objs ss).drop i) (lv := .slice (some ⟨g4, 0, none⟩) ss.length c4) (pv := .slice (some ⟨g4, 0, none⟩) i c4) (rv := .slice (some ⟨ga, 0, none⟩) (ss.length - i) ca) (a := some ⟨g4, 0, none⟩) (cap := c4) (gr := ga) (cr := ca) (by simp) ?_ rfl ⟨_, rfl, rfl, rfl, by simp [Region.binds]⟩ ⟨_, rfl, rfl, rfl, by simp [Region.binds]⟩ ⟨_, rfl, rfl, rfl, by simp [Region.binds]⟩ ⟨_, rfl, rfl, rfl, by simp [Region.binds]⟩ ⟨_, rfl, rfl, rfl, by simp [Region.binds]⟩ ⟨_, rfl, rfl, rfl, by simp [Region.binds]⟩ ⟨_, rfl, rfl, rfl, by simp [Region.binds]⟩ ⟨_, rfl, rfl, rfl, by simp [Region.binds]⟩ ⟨_, rfl, rfl, rfl, by simp [Region.binds]⟩ ⟨_, rfl, rfl, rfl, by simp [Region.binds]⟩ ⟨_, rfl, rfl, rfl, by simp [Region.binds]⟩ ⟨_, rfl, rfl, rfl, by simp [Region.binds]⟩ (by decide) (by decide) (by decide) (by decide) (by decide) (by decide) (by simp) rfl rfl rfl rfl (rs_cut (by omega) (by omega) (by omega)) (rs_f0 P7) l7 f0 rfl hT4 rfl HRa2.out (by omega) (by omega) ?_
                      · intro k' o' ho' e' he'
                        have hk' : k' < 12 := (Array.getElem?_eq_some_iff.1 ho').1
                        rcases (show k' = 0 ∨ k' = 1 ∨ k' = 2 ∨ k' = 3 ∨ k' = 4 ∨ k' = 5 ∨ k' = 6 ∨ k' = 7 ∨ k' = 8 ∨ k' = 9 ∨ k' = 10 ∨ k' = 11 by omega) with rfl | rfl | rfl | rfl | rfl | rfl | rfl | rfl | rfl | rfl | rfl | rfl
                        all_goals
                          injection ho' with ho'
                          subst ho'
                          simp at he'
                          try omega
                        all_goals
                          first
                            | (subst he'; decide)
                            | (rcases he' with rfl | rfl <;> decide)
                            | (rcases he' with rfl | rfl | rfl <;> decide)
                            | (rcases he' with rfl | rfl | rfl | rfl <;> decide)
                            | (rcases he' with rfl | rfl | rfl | rfl | rfl <;> decide)
                            | (rcases he' with rfl | rfl | rfl | rfl | rfl | rfl <;> decide)
                            | (rcases he' with rfl | rfl | rfl | rfl | rfl | rfl | rfl <;> decide)
                            | (rcases he' with rfl | rfl | rfl | rfl | rfl | rfl | rfl | rfl <;> decide)
                            | (rcases he' with rfl | rfl | rfl | rfl | rfl | rfl | rfl | rfl | rfl <;> decide)
                            | (rcases he' with rfl | rfl | rfl | rfl | rfl | rfl | rfl | rfl | rfl | rfl <;> decide)
                            | (rcases he' with rfl | rfl | rfl | rfl | rfl | rfl | rfl | rfl | rfl | rfl | rfl <;> decide)
                            | (rcases he' with rfl | rfl | rfl | rfl | rfl | rfl | rfl | rfl | rfl | rfl | rfl | rfl <;> decide)
                            | (rcases he' with rfl | rfl | rfl | rfl | rfl | rfl | rfl | rfl | rfl | rfl | rfl | rfl | rfl <;> decide)
                            | (rcases he' with rfl | rfl | rfl | rfl | rfl | rfl | rfl | rfl | rfl | rfl | rfl | rfl | rfl | rfl <;> decide)
                            | (rcases he' with rfl | rfl | rfl | rfl | rfl | rfl | rfl | rfl | rfl | rfl | rfl | rfl | rfl | rfl | rfl <;> decide)
                            | (rcases he' with rfl | rfl | rfl | rfl | rfl | rfl | rfl | rfl | rfl | rfl | rfl | rfl | rfl | rfl | rfl | rfl <;> decide)
                            | (rcases he' with rfl | rfl | rfl | rfl | rfl | rfl | rfl | rfl | rfl | rfl | rfl | rfl | rfl | rfl | rfl | rfl | rfl <;> decide)
                      · rintro u w' v hu hrow hb
                        obtain ⟨gq, cq, hv⟩ : ∃ g c, v = .slice (some ⟨g, 0, none⟩) (ss.length + 1) c := by
                          obtain ⟨_, ⟨_, q0⟩ | ⟨g, c', cur, q1, _⟩⟩ := id hrow
                          · omega
                          · exact ⟨g, c', by rw [q1]; congr 1; omega⟩
                        subst hv
                        have ow := own_put (R := (idsG G.objs ss).take i ++ mi :: (idsG G.objs ss).drop i) rfl (by simp; omega) (row_base hrow szb)
                        rename_i J K' HJ HK
                        exact HK _ _ (Met.intro (HJ _ _ ⟨u 4, _, _, _, _, _, _, _, _, _, _, _, _, _, _, _, _, _, _, _, _, _, _, _, _, _, _, _, _, _, _, _, _, _, _, _, _, _, _, _, _, _, _, _, _, _, _, _, _, _, _, _, _, _, _, _, _, _, _, _, _, _, _, _, _, _, _, _, _, _, _, _, _, _, _, _, _, _, _, _, _, _, _, _, _, _, _, ⟨gq, cq, hu, ow, hb⟩, rfl⟩))
                    obtain ⟨g6, c6, rfl, HO6, HB6⟩ := hcut
                    obtain ⟨wd, hwd⟩ : ∃ wd, wd = wc := ⟨_, rfl⟩
                    subst hwd
                    have BYd := HBYb.out.trans (HB6.out.mono HBYb.out.size)
                    have TYd := five_below HTY.out BYd
                    have l7 := lt_of_block TYd
                    have f3 := (five_cells TYd).2.2.2.1
                    have szd : w.heap.size ≤ wd.heap.size := Nat.le_trans szb HB6.out.size
                    have hT5 := intsAt_below (ints_take (own_ints HY5.out) hi) BYd
                    have hD5 := intsAt_below HRb.out HB6.out
                    have HBXd : Hid (Below X2.heap.size X2 wd) := HBY.out.trans (BYd.mono HBY.out.size)
                    clear f0
                    go_wp2_with fail
                    refine regPut (s0 := 90) (ls := 5) (rs := 10) (P7 := P7) (fd := 3) (kk := i) (m := ss.length - i) (x := mh) (T := (hshG G.objs ss).take i) (D := (hshG G.objs ss).drop i) (lv := .slice (some ⟨g5, 0, none⟩) ss.length c5) (pv := .slice (some ⟨g5, 0, none⟩) i c5) (rv := .slice (some ⟨gb', 0, none⟩) (ss.length - i) cb) (a := some ⟨g5, 0, none⟩) (cap := c5) (gr := gb') (cr := cb) (by simp) ?_ rfl ⟨_, rfl, rfl, rfl, by simp [Region.binds]⟩ ⟨_, rfl, rfl, rfl, by simp [Region.binds]⟩ ⟨_, rfl, rfl, rfl, by simp [Region.binds]⟩ ⟨_, rfl, rfl, rfl, by simp [Region.binds]⟩ ⟨_, rfl, rfl, rfl, by simp [Region.binds]⟩ ⟨_, rfl, rfl, rfl, by simp [Region.binds]⟩ ⟨_, rfl, rfl, rfl, by simp [Region.binds]⟩ ⟨_, rfl, rfl, rfl, by simp [Region.binds]⟩ ⟨_, rfl, rfl, rfl, by simp [Region.binds]⟩ ⟨_, rfl, rfl, rfl, by simp [Region.binds]⟩ ⟨_, rfl, rfl, rfl, by simp [Region.binds]⟩ ⟨_, rfl, rfl, rfl, by simp [Region.binds]⟩ (by decide) (by decide) (by decide) (by decide) (by decide) (by decide) (by simp) rfl rfl rfl rfl (rs_cut (by omega) (by omega) (by omega)) (rs_f3 P7) l7 f3 rfl hT5 rfl hD5 (by omega) (by omega) ?_
                    · intro k' o' ho' e' he'
                      have hk' : k' < 12 := (Array.getElem?_eq_some_iff.1 ho').1
                      rcases (show k' = 0 ∨ k' = 1 ∨ k' = 2 ∨ k' = 3 ∨ k' = 4 ∨ k' = 5 ∨ k' = 6 ∨ k' = 7 ∨ k' = 8 ∨ k' = 9 ∨ k' = 10 ∨ k' = 11 by omega) with rfl | rfl | rfl | rfl | rfl | rfl | rfl | rfl | rfl | rfl | rfl | rfl
                      all_goals
                        injection ho' with ho'
                        subst ho'
                        simp at he'
                        try omega
                      all_goals
                        first
                          | (subst he'; decide)
                          | (rcases he' with rfl | rfl <;> decide)
                          | (rcases he' with rfl | rfl | rfl <;> decide)
                          | (rcases he' with rfl | rfl | rfl | rfl <;> decide)
                          | (rcases he' with rfl | rfl | rfl | rfl | rfl <;> decide)
                          | (rcases he' with rfl | rfl | rfl | rfl | rfl | rfl <;> decide)
                          | (rcases he' with rfl | rfl | rfl | rfl | rfl | rfl | rfl <;> decide)
                          | (rcases he' with rfl | rfl | rfl | rfl | rfl | rfl | rfl | rfl <;> decide)
                          | (rcases he' with rfl | rfl | rfl | rfl | rfl | rfl | rfl | rfl | rfl <;> decide)
                          | (rcases he' with rfl | rfl | rfl | rfl | rfl | rfl | rfl | rfl | rfl | rfl <;> decide)
                          | (rcases he' with rfl | rfl | rfl | rfl | rfl | rfl | rfl | rfl | rfl | rfl | rfl <;> decide)
                          | (rcases he' with rfl | rfl | rfl | rfl | rfl | rfl | rfl | rfl | rfl | rfl | rfl | rfl <;> decide)
                          | (rcases he' with rfl | rfl | rfl | rfl | rfl | rfl | rfl | rfl | rfl | rfl | rfl | rfl | rfl <;> decide)
                          | (rcases he' with rfl | rfl | rfl | rfl | rfl | rfl | rfl | rfl | rfl | rfl | rfl | rfl | rfl | rfl <;> decide)
                          | (rcases he' with rfl | rfl | rfl | rfl | rfl | rfl | rfl | rfl | rfl | rfl | rfl | rfl | rfl | rfl | rfl <;> decide)
                          | (rcases he' with rfl | rfl | rfl | rfl | rfl | rfl | rfl | rfl | rfl | rfl | rfl | rfl | rfl | rfl | rfl | rfl <;> decide)
                          | (rcases he' with rfl | rfl | rfl | rfl | rfl | rfl | rfl | rfl | rfl | rfl | rfl | rfl | rfl | rfl | rfl | rfl | rfl <;> decide)
                    rintro u w' v hu hrow hb
                    obtain ⟨gq, cq, hv⟩ : ∃ g c, v = .slice (some ⟨g, 0, none⟩) (ss.length + 1) c := by
                      obtain ⟨_, ⟨_, q0⟩ | ⟨g, c', cur, q1, _⟩⟩ := id hrow
                      · omega
                      · exact ⟨g, c', by rw [q1]; congr 1; omega⟩
                    subst hv
                    have ow := own_put (R := (hshG G.objs ss).take i ++ mh :: (hshG G.objs ss).drop i) rfl (by simp; omega) (row_base hrow szd)
                    have HB7 : Hid _ := hb
                    have HO7 : Hid _ := ow
                    clear ow hb hrow
                    simp [ovr, List.range, List.range.loop, hu]
                    have hins := insG_at (os := G.objs) (p := k) hi (fun j hj => by
                          have := hall j hj
                          rw [HHS.out]
                          have e : (hshG G.objs ss).getD j 0 = (G.objs.getD (ss.getD j 0) obD).hash := by
                            rw [List.getD_eq_getElem?_getD, List.getElem?_map, List.getElem?_eq_getElem (show j < ss.length by omega), List.getD_eq_getElem?_getD (l := ss), List.getElem?_eq_getElem (show j < ss.length by omega)]
                            rfl
                          rw [← e]
                          exact this) (fun hjl => by
                          rw [HHS.out]
                          have e : (hshG G.objs ss).getD i 0 = (G.objs.getD (ss.getD i 0) obD).hash := by
                            rw [List.getD_eq_getElem?_getD, List.getElem?_map, List.getElem?_eq_getElem hjl, List.getD_eq_getElem?_getD (l := ss), List.getElem?_eq_getElem hjl]
                            rfl
                          rw [← e]
                          exact (by rw [hhx]; exact HNLE.out))
                    have HST : Hid (∃ (k' g4' c4' g5' c5' : Nat), k' ≤ ms.length ∧ Value.int .i64 ((k : Int) + 1) = .int .i64 k' ∧ Value.slice (some ⟨g6, 0, none⟩) (ss.length + 1) c6 = .slice (some ⟨g4', 0, none⟩) (sortG G.objs f k').length c4' ∧ Value.slice (some ⟨gq, 0, none⟩) (ss.length + 1) cq = .slice (some ⟨g5', 0, none⟩) (sortG G.objs f k').length c5' ∧ Own w' w.heap.size (.slice (some ⟨g4', 0, none⟩) (sortG G.objs f k').length c4') (idsG G.objs (sortG G.objs f k')) ∧ Own w' w.heap.size (.slice (some ⟨g5', 0, none⟩) (sortG G.objs f k').length c5') (hshG G.objs (sortG G.objs f k')) ∧ Below X2.heap.size X2 w') := by
                      have e1 : idsG G.objs (sortG G.objs f (k + 1)) = (idsG G.objs ss).take i ++ mi :: (idsG G.objs ss).drop i := by rw [HX.out, hins, ← HID.out]; simp [idsG]
                      have e2 : hshG G.objs (sortG G.objs f (k + 1)) = (hshG G.objs ss).take i ++ mh :: (hshG G.objs ss).drop i := by rw [HX.out, hins, ← HHS.out]; simp [hshG]
                      have e3 : (sortG G.objs f (k + 1)).length = ss.length + 1 := by rw [HX.out, len_insG]
                      exact ⟨k + 1, g6, c6, gq, cq, by omega, by simp, by rw [e3], by rw [e3], by rw [e3, e1]; exact own_below HO6.out HB7.out, by rw [e3, e2]; exact HO7.out, HBXd.out.trans (HB7.out.mono HBXd.out.size)⟩
                    clear hins
                    go_wp2
                    exact ⟨HST.out, by simp [intOf]; omega⟩
                  · have hdl : decide ((i : Int) < (ss.length : Int)) = false := by rw [decide_eq_false_iff_not]; omega
                    have hnl : ¬ (i : Int) < (ss.length : Int) := by omega
                    go_wp2_with fail
                    go_quiet (fail)
                    have HP4 : Hid (∀ n o c, (o = i ∧ c = c4 - i ∨ i = ss.length ∧ c4 = i ∧ o = 0 ∧ c = 0) → IntsAt (Y.drewN n) (.slice (some ⟨g4, o, none⟩) (ss.length - i) c) ((idsG G.objs ss).drop i)) := by
                      intro n o c h
                      rcases h with ⟨rfl, rfl⟩ | ⟨h1, h2, rfl, rfl⟩
                      · exact ints_drop (w := Y) (b := g4) (off := 0) (n := ss.length) (cap := c4) (own_ints HY4.out) hi (fun h => by rw [Nat.zero_add]) (fun h => by cases h)
                      · have := ints_drop (w := Y) (b := g4) (off := 0) (n := ss.length) (cap := c4) (k := i) (own_ints HY4.out) hi (a := some ⟨g4, 0, none⟩) (fun h => by omega) (fun h => by cases h)
                        rw [show c4 - i = 0 by omega] at this
                        exact this
                    have HP5 : Hid (∀ W o c, Below Y.heap.size Y W → (o = i ∧ c = c5 - i ∨ i = ss.length ∧ c5 = i ∧ o = 0 ∧ c = 0) → IntsAt W (.slice (some ⟨g5, o, none⟩) (ss.length - i) c) ((hshG G.objs ss).drop i)) := by
                      intro W o c hW h
                      refine intsAt_below ?_ hW
                      rcases h with ⟨rfl, rfl⟩ | ⟨h1, h2, rfl, rfl⟩
                      · exact ints_drop (w := Y) (b := g5) (off := 0) (n := ss.length) (cap := c5) (own_ints HY5.out) hi (fun h => by rw [Nat.zero_add]) (fun h => by cases h)
                      · have := ints_drop (w := Y) (b := g5) (off := 0) (n := ss.length) (cap := c5) (k := i) (own_ints HY5.out) hi (a := some ⟨g5, 0, none⟩) (fun h => by omega) (fun h => by cases h)
                        rw [show c5 - i = 0 by omega] at this
                        exact this
                    have HQ4 : Hid (∀ n, IntsAt (Y.drewN n) (.slice (if c4 = i then (some ⟨g4, 0, none⟩ : Option Addr) else some ⟨g4, i, none⟩) (ss.length - i) (c4 - i)) ((idsG G.objs ss).drop i)) := fun n => ints_drop (w := Y) (b := g4) (off := 0) (n := ss.length) (cap := c4) (own_ints HY4.out) hi (fun h => by rw [if_neg (by omega), Nat.zero_add]) (fun h => by split at h <;> cases h)
                    have HQ5 : Hid (∀ W, Below Y.heap.size Y W → IntsAt W (.slice (if c5 = i then (some ⟨g5, 0, none⟩ : Option Addr) else some ⟨g5, i, none⟩) (ss.length - i) (c5 - i)) ((hshG G.objs ss).drop i)) := fun W hW => intsAt_below (ints_drop (w := Y) (b := g5) (off := 0) (n := ss.length) (cap := c5) (own_ints HY5.out) hi (fun h => by rw [if_neg (by omega), Nat.zero_add]) (fun h => by split at h <;> cases h)) hW
                    go_wp2_with (first
                      | (refine wpList_copiedN (n := ss.length - i) (xs := (idsG G.objs ss).drop i) ?_ (by omega) rfl (.tmp 69) (.tmp 72) rfl rfl rfl ?_; (first | exact HQ4.out _ | exact HP4.out _ _ _ (Or.inl ⟨rfl, rfl⟩) | exact HP4.out _ _ _ (Or.inr ⟨by omega, by omega, rfl, rfl⟩)); intro ga ca wa hga hOa hBa; (try generalize (if c4 = i then (some ⟨g4, 0, none⟩ : Option Addr) else some ⟨g4, i, none⟩) = z4); have BYa : Below Y.heap.size Y wa := ⟨hBa.os, hBa.tape, hBa.output, hBa.size, hBa.block⟩; have HBYa : Hid _ := BYa; have HRa : Hid (IntsAt wa (.slice (some ⟨ga, 0, none⟩) (ss.length - i) ca) ((idsG G.objs ss).drop i)) := own_ints (own_row hOa (by simp)); clear hOa hBa hga BYa)
                      | (refine wpList_copiedN (n := ss.length - i) (xs := (hshG G.objs ss).drop i) ?_ (by omega) rfl (.tmp 74) (.tmp 77) rfl rfl rfl ?_; (first | exact HQ5.out _ HBYa.out | exact HP5.out _ _ _ HBYa.out (Or.inl ⟨rfl, rfl⟩) | exact HP5.out _ _ _ HBYa.out (Or.inr ⟨by omega, by omega, rfl, rfl⟩)); intro gb' cb wb hgb hOb hBb; (try generalize (if c5 = i then (some ⟨g5, 0, none⟩ : Option Addr) else some ⟨g5, i, none⟩) = z5); have HBYb : Hid (Below Y.heap.size Y wb) := HBYa.out.trans (hBb.mono HBYa.out.size); have HRa2 : Hid _ := intsAt_below HRa.out hBb; have HRb : Hid (IntsAt wb (.slice (some ⟨gb', 0, none⟩) (ss.length - i) cb) ((hshG G.objs ss).drop i)) := own_ints (own_row hOb (by simp)); clear hOb hBb hgb))
                    clear HQ4 HQ5 HP4 HP5
                    have TYb := five_below HTY.out HBYb.out
                    have l7 := lt_of_block TYb
                    have f0 := (five_cells TYb).1
                    have szb : w.heap.size ≤ wb.heap.size := Nat.le_trans HB2.out.size (Nat.le_trans HBY.out.size HBYb.out.size)
                    have hT4 := intsAt_below (ints_take (own_ints HY4.out) hi) HBYb.out
                    go_cut [4] from 15 to 100 (fun v wx => ∃ g c : Nat, v = .slice (some ⟨g, 0, none⟩) (ss.length + 1) c ∧ Hid (Own wx w.heap.size (.slice (some ⟨g, 0, none⟩) (ss.length + 1) c) ((idsG G.objs ss).take i ++ mi :: (idsG G.objs ss).drop i)) ∧ Hid (Below wb.heap.size wb wx))
                    case first =>
                      refine regPut (s0 := 79) (ls := 4) (rs := 9) (P7 := P7) (fd := 0) (kk := i) (m := ss.length - i) (x := mi) (T := (idsG G.objs ss).take i) (D := (idsG G.objs ss).drop i) (lv := .slice (some ⟨g4, 0, none⟩) ss.length c4) (pv := .slice (some ⟨g4, 0, none⟩) i c4) (rv := .slice (some ⟨ga, 0, none⟩) (ss.length - i) ca) (a := some ⟨g4, 0, none⟩) (cap := c4) (gr := ga) (cr := ca) (by simp) ?_ rfl ⟨_, rfl, rfl, rfl, by simp [Region.binds]⟩ ⟨_, rfl, rfl, rfl, by simp [Region.binds]⟩ ⟨_, rfl, rfl, rfl, by simp [Region.binds]⟩ ⟨_, rfl, rfl, rfl, by simp [Region.binds]⟩ ⟨_, rfl, rfl, rfl, by simp [Region.binds]⟩ ⟨_, rfl, rfl, rfl, by simp [Region.binds]⟩ ⟨_, rfl, rfl, rfl, by simp [Region.binds]⟩ ⟨_, rfl, rfl, rfl, by simp [Region.binds]⟩ ⟨_, rfl, rfl, rfl, by simp [Region.binds]⟩ ⟨_, rfl, rfl, rfl, by simp [Region.binds]⟩ ⟨_, rfl, rfl, rfl, by simp [Region.binds]⟩ ⟨_, rfl, rfl, rfl, by simp [Region.binds]⟩ (by decide) (by decide) (by decide) (by decide) (by decide) (by decide) (by simp) rfl rfl rfl rfl (rs_cut (by omega) (by omega) (by omega)) (rs_f0 P7) l7 f0 rfl hT4 rfl HRa2.out (by omega) (by omega) ?_
                      · intro k' o' ho' e' he'
                        have hk' : k' < 12 := (Array.getElem?_eq_some_iff.1 ho').1
                        rcases (show k' = 0 ∨ k' = 1 ∨ k' = 2 ∨ k' = 3 ∨ k' = 4 ∨ k' = 5 ∨ k' = 6 ∨ k' = 7 ∨ k' = 8 ∨ k' = 9 ∨ k' = 10 ∨ k' = 11 by omega) with rfl | rfl | rfl | rfl | rfl | rfl | rfl | rfl | rfl | rfl | rfl | rfl
                        all_goals
                          injection ho' with ho'
                          subst ho'
                          simp at he'
                          try omega
                        all_goals
                          first
                            | (subst he'; decide)
                            | (rcases he' with rfl | rfl <;> decide)
                            | (rcases he' with rfl | rfl | rfl <;> decide)
                            | (rcases he' with rfl | rfl | rfl | rfl <;> decide)
                            | (rcases he' with rfl | rfl | rfl | rfl | rfl <;> decide)
                            | (rcases he' with rfl | rfl | rfl | rfl | rfl | rfl <;> decide)
                            | (rcases he' with rfl | rfl | rfl | rfl | rfl | rfl | rfl <;> decide)
                            | (rcases he' with rfl | rfl | rfl | rfl | rfl | rfl | rfl | rfl <;> decide)
                            | (rcases he' with rfl | rfl | rfl | rfl | rfl | rfl | rfl | rfl | rfl <;> decide)
                            | (rcases he' with rfl | rfl | rfl | rfl | rfl | rfl | rfl | rfl | rfl | rfl <;> decide)
                            | (rcases he' with rfl | rfl | rfl | rfl | rfl | rfl | rfl | rfl | rfl | rfl | rfl <;> decide)
                            | (rcases he' with rfl | rfl | rfl | rfl | rfl | rfl | rfl | rfl | rfl | rfl | rfl | rfl <;> decide)
                            | (rcases he' with rfl | rfl | rfl | rfl | rfl | rfl | rfl | rfl | rfl | rfl | rfl | rfl | rfl <;> decide)
                            | (rcases he' with rfl | rfl | rfl | rfl | rfl | rfl | rfl | rfl | rfl | rfl | rfl | rfl | rfl | rfl <;> decide)
                            | (rcases he' with rfl | rfl | rfl | rfl | rfl | rfl | rfl | rfl | rfl | rfl | rfl | rfl | rfl | rfl | rfl <;> decide)
                            | (rcases he' with rfl | rfl | rfl | rfl | rfl | rfl | rfl | rfl | rfl | rfl | rfl | rfl | rfl | rfl | rfl | rfl <;> decide)
                            | (rcases he' with rfl | rfl | rfl | rfl | rfl | rfl | rfl | rfl | rfl | rfl | rfl | rfl | rfl | rfl | rfl | rfl | rfl <;> decide)
                      · rintro u w' v hu hrow hb
                        obtain ⟨gq, cq, hv⟩ : ∃ g c, v = .slice (some ⟨g, 0, none⟩) (ss.length + 1) c := by
                          obtain ⟨_, ⟨_, q0⟩ | ⟨g, c', cur, q1, _⟩⟩ := id hrow
                          · omega
                          · exact ⟨g, c', by rw [q1]; congr 1; omega⟩
                        subst hv
                        have ow := own_put (R := (idsG G.objs ss).take i ++ mi :: (idsG G.objs ss).drop i) rfl (by simp; omega) (row_base hrow szb)
                        rename_i J K' HJ HK
                        exact HK _ _ (Met.intro (HJ _ _ ⟨u 4, _, _, _, _, _, _, _, _, _, _, _, _, _, _, _, _, _, _, _, _, _, _, _, _, _, _, _, _, _, _, _, _, _, _, _, _, _, _, _, _, _, _, _, _, _, _, _, _, _, _, _, _, _, _, _, _, _, _, _, _, _, _, _, _, _, _, _, _, _, _, _, _, _, _, _, _, _, _, _, _, _, _, _, _, _, _, ⟨gq, cq, hu, ow, hb⟩, rfl⟩))
                    obtain ⟨g6, c6, rfl, HO6, HB6⟩ := hcut
                    obtain ⟨wd, hwd⟩ : ∃ wd, wd = wc := ⟨_, rfl⟩
                    subst hwd
                    have BYd := HBYb.out.trans (HB6.out.mono HBYb.out.size)
                    have TYd := five_below HTY.out BYd
                    have l7 := lt_of_block TYd
                    have f3 := (five_cells TYd).2.2.2.1
                    have szd : w.heap.size ≤ wd.heap.size := Nat.le_trans szb HB6.out.size
                    have hT5 := intsAt_below (ints_take (own_ints HY5.out) hi) BYd
                    have hD5 := intsAt_below HRb.out HB6.out
                    have HBXd : Hid (Below X2.heap.size X2 wd) := HBY.out.trans (BYd.mono HBY.out.size)
                    clear f0
                    go_wp2_with fail
                    refine regPut (s0 := 90) (ls := 5) (rs := 10) (P7 := P7) (fd := 3) (kk := i) (m := ss.length - i) (x := mh) (T := (hshG G.objs ss).take i) (D := (hshG G.objs ss).drop i) (lv := .slice (some ⟨g5, 0, none⟩) ss.length c5) (pv := .slice (some ⟨g5, 0, none⟩) i c5) (rv := .slice (some ⟨gb', 0, none⟩) (ss.length - i) cb) (a := some ⟨g5, 0, none⟩) (cap := c5) (gr := gb') (cr := cb) (by simp) ?_ rfl ⟨_, rfl, rfl, rfl, by simp [Region.binds]⟩ ⟨_, rfl, rfl, rfl, by simp [Region.binds]⟩ ⟨_, rfl, rfl, rfl, by simp [Region.binds]⟩ ⟨_, rfl, rfl, rfl, by simp [Region.binds]⟩ ⟨_, rfl, rfl, rfl, by simp [Region.binds]⟩ ⟨_, rfl, rfl, rfl, by simp [Region.binds]⟩ ⟨_, rfl, rfl, rfl, by simp [Region.binds]⟩ ⟨_, rfl, rfl, rfl, by simp [Region.binds]⟩ ⟨_, rfl, rfl, rfl, by simp [Region.binds]⟩ ⟨_, rfl, rfl, rfl, by simp [Region.binds]⟩ ⟨_, rfl, rfl, rfl, by simp [Region.binds]⟩ ⟨_, rfl, rfl, rfl, by simp [Region.binds]⟩ (by decide) (by decide) (by decide) (by decide) (by decide) (by decide) (by simp) rfl rfl rfl rfl (rs_cut (by omega) (by omega) (by omega)) (rs_f3 P7) l7 f3 rfl hT5 rfl hD5 (by omega) (by omega) ?_
                    · intro k' o' ho' e' he'
                      have hk' : k' < 12 := (Array.getElem?_eq_some_iff.1 ho').1
                      rcases (show k' = 0 ∨ k' = 1 ∨ k' = 2 ∨ k' = 3 ∨ k' = 4 ∨ k' = 5 ∨ k' = 6 ∨ k' = 7 ∨ k' = 8 ∨ k' = 9 ∨ k' = 10 ∨ k' = 11 by omega) with rfl | rfl | rfl | rfl | rfl | rfl | rfl | rfl | rfl | rfl | rfl | rfl
                      all_goals
                        injection ho' with ho'
                        subst ho'
                        simp at he'
                        try omega
                      all_goals
                        first
                          | (subst he'; decide)
                          | (rcases he' with rfl | rfl <;> decide)
                          | (rcases he' with rfl | rfl | rfl <;> decide)
                          | (rcases he' with rfl | rfl | rfl | rfl <;> decide)
                          | (rcases he' with rfl | rfl | rfl | rfl | rfl <;> decide)
                          | (rcases he' with rfl | rfl | rfl | rfl | rfl | rfl <;> decide)
                          | (rcases he' with rfl | rfl | rfl | rfl | rfl | rfl | rfl <;> decide)
                          | (rcases he' with rfl | rfl | rfl | rfl | rfl | rfl | rfl | rfl <;> decide)
                          | (rcases he' with rfl | rfl | rfl | rfl | rfl | rfl | rfl | rfl | rfl <;> decide)
                          | (rcases he' with rfl | rfl | rfl | rfl | rfl | rfl | rfl | rfl | rfl | rfl <;> decide)
                          | (rcases he' with rfl | rfl | rfl | rfl | rfl | rfl | rfl | rfl | rfl | rfl | rfl <;> decide)
                          | (rcases he' with rfl | rfl | rfl | rfl | rfl | rfl | rfl | rfl | rfl | rfl | rfl | rfl <;> decide)
                          | (rcases he' with rfl | rfl | rfl | rfl | rfl | rfl | rfl | rfl | rfl | rfl | rfl | rfl | rfl <;> decide)
                          | (rcases he' with rfl | rfl | rfl | rfl | rfl | rfl | rfl | rfl | rfl | rfl | rfl | rfl | rfl | rfl <;> decide)
                          | (rcases he' with rfl | rfl | rfl | rfl | rfl | rfl | rfl | rfl | rfl | rfl | rfl | rfl | rfl | rfl | rfl <;> decide)
                          | (rcases he' with rfl | rfl | rfl | rfl | rfl | rfl | rfl | rfl | rfl | rfl | rfl | rfl | rfl | rfl | rfl | rfl <;> decide)
                          | (rcases he' with rfl | rfl | rfl | rfl | rfl | rfl | rfl | rfl | rfl | rfl | rfl | rfl | rfl | rfl | rfl | rfl | rfl <;> decide)
                    rintro u w' v hu hrow hb
                    obtain ⟨gq, cq, hv⟩ : ∃ g c, v = .slice (some ⟨g, 0, none⟩) (ss.length + 1) c := by
                      obtain ⟨_, ⟨_, q0⟩ | ⟨g, c', cur, q1, _⟩⟩ := id hrow
                      · omega
                      · exact ⟨g, c', by rw [q1]; congr 1; omega⟩
                    subst hv
                    have ow := own_put (R := (hshG G.objs ss).take i ++ mh :: (hshG G.objs ss).drop i) rfl (by simp; omega) (row_base hrow szd)
                    have HB7 : Hid _ := hb
                    have HO7 : Hid _ := ow
                    clear ow hb hrow
                    simp [ovr, List.range, List.range.loop, hu]
                    have hins := insG_at (os := G.objs) (p := k) hi (fun j hj => by
                          have := hall j hj
                          rw [HHS.out]
                          have e : (hshG G.objs ss).getD j 0 = (G.objs.getD (ss.getD j 0) obD).hash := by
                            rw [List.getD_eq_getElem?_getD, List.getElem?_map, List.getElem?_eq_getElem (show j < ss.length by omega), List.getD_eq_getElem?_getD (l := ss), List.getElem?_eq_getElem (show j < ss.length by omega)]
                            rfl
                          rw [← e]
                          exact this) (fun h => absurd h (by omega))
                    have HST : Hid (∃ (k' g4' c4' g5' c5' : Nat), k' ≤ ms.length ∧ Value.int .i64 ((k : Int) + 1) = .int .i64 k' ∧ Value.slice (some ⟨g6, 0, none⟩) (ss.length + 1) c6 = .slice (some ⟨g4', 0, none⟩) (sortG G.objs f k').length c4' ∧ Value.slice (some ⟨gq, 0, none⟩) (ss.length + 1) cq = .slice (some ⟨g5', 0, none⟩) (sortG G.objs f k').length c5' ∧ Own w' w.heap.size (.slice (some ⟨g4', 0, none⟩) (sortG G.objs f k').length c4') (idsG G.objs (sortG G.objs f k')) ∧ Own w' w.heap.size (.slice (some ⟨g5', 0, none⟩) (sortG G.objs f k').length c5') (hshG G.objs (sortG G.objs f k')) ∧ Below X2.heap.size X2 w') := by
                      have e1 : idsG G.objs (sortG G.objs f (k + 1)) = (idsG G.objs ss).take i ++ mi :: (idsG G.objs ss).drop i := by rw [HX.out, hins, ← HID.out]; simp [idsG]
                      have e2 : hshG G.objs (sortG G.objs f (k + 1)) = (hshG G.objs ss).take i ++ mh :: (hshG G.objs ss).drop i := by rw [HX.out, hins, ← HHS.out]; simp [hshG]
                      have e3 : (sortG G.objs f (k + 1)).length = ss.length + 1 := by rw [HX.out, len_insG]
                      exact ⟨k + 1, g6, c6, gq, cq, by omega, by simp, by rw [e3], by rw [e3], by rw [e3, e1]; exact own_below HO6.out HB7.out, by rw [e3, e2]; exact HO7.out, HBXd.out.trans (HB7.out.mono HBXd.out.size)⟩
                    clear hins
                    go_wp2
                    exact ⟨HST.out, by simp [intOf]; omega⟩
          · have hk2' : (k0 != 2) = true := by simpa using hk2
            have hfk : f k = false := by
              cases e : f k
              · rfl
              · obtain ⟨_, _, q', h1, h2⟩ := HFK.out.1 e
                rw [HKN.out hk2] at h1
                cases h1
            have HX : Hid _ := HSKIP.out hfk
            clear HSKIP HNO HYES HKX HKN HIN hfk he0 hk2
            go_wp2_with (go_at_call 67; refine HS1.mono ?_; clear HS1; rintro e w4 ⟨rfl, hw4⟩; rw [hw4]; clear hw4)
            exact ⟨HX.out, by simp [intOf]; omega⟩
        · have HS1 := l1Has_any HRY.out (by omega) mi
          rw [decide_eq_false hi1] at HS1
          have hfk : f k = false := by
            cases e : f k
            · rfl
            · exact absurd (HIN.out.2 (HFK.out.1 e).1) hi1
          have HX : Hid _ := HSKIP.out hfk
          clear HSKIP HNO HYES HKX HKN HIN hfk
          go_wp2_with (go_at_call 67; refine HS1.mono ?_; clear HS1; rintro e w4 ⟨rfl, hw4⟩; rw [hw4]; clear hw4)
          exact ⟨HX.out, by simp [intOf]; omega⟩
      · have hf2' : (mf != 2) = true := by simpa using hf2
        have hfk : f k = false := by
          cases e : f k
          · rfl
          · have := (HFK.out.1 e).2.1
            rw [HFM.out] at this
            exact absurd this hf2
        have HX : Hid _ := HSKIP.out hfk
        clear HSKIP HNO HYES HKX HKN HIN hfk hf2
        go_wp2
        exact ⟨HX.out, by simp [intOf]; omega⟩
    · have e : k = ms.length := by omega
      subst e
      have hfin : Own wr w.heap.size (.slice (some ⟨g4, 0, none⟩) (sortG G.objs f ms.length).length c4) (idsG G.objs ps) := by
        have := HO4.out
        rw [HPS.out, ← HLEN.out]
        exact this
      have HFO : Hid _ := hfin
      have HFB : Hid (Below w.heap.size w wr) := HB2.out.trans (hB.mono HB2.out.size)
      clear hO4 hO5 hB hfin
      generalize (sortG G.objs f ms.length).length = nn at *
      go_wp2
      go_ret
      exact ⟨_, rfl, HFO.out, HFB.out⟩
end Go.Proofs.Ytdogibjgogcdkac.gr
namespace Go.Proofs.Ytdogibjgogcdkac.gr
open Go.RowKit rows heads
set_option maxRecDepth 100000
set_option linter.unusedVariables false

theorem ownI_cell {w : World} {base : Nat} {a : Option Addr} {n c : Nat} {xs : List Int} (h : Own w base (.slice a n c) xs) {i : Nat} (hi : i < xs.length) : ∃ g, a = some ⟨g, 0, none⟩ ∧ w.cell? ⟨g, i, none⟩ = some (.int .i64 (xs.getD i 0)) ∧ g < w.heap.size := by
  have h' := h
  obtain ⟨h0, ⟨h1, h2⟩ | ⟨g, cap, cur, h1, hg, hh, _⟩⟩ := h
  · omega
  · injection h1 with e1 e2 e3
    subst e1 e2 e3
    have := World.ownsRow.cellAt h' i (by omega)
    refine ⟨g, rfl, ?_, lt_of_block hh⟩
    rw [this]
    simp [List.getD_eq_getElem?_getD, List.getElem?_eq_getElem hi]
theorem atI_own {G : Gr} (h : Right G) {p : Nat} (hp : p < G.objs.length) : atI G.objs (G.objs.getD p obD).id = p :=
  atI_at hp rfl fun m hm e => absurd (rise_inj (gOk_rise h.gOk) (show m < G.objs.length by omega) hp e) (by omega)

set_option maxHeartbeats 8000000 in
theorem l7Mourn_any {base P : Nat} {R : Gr} {w : World} {G : Gr} (H : Held w base P G) (hr : Right G) (hM : Mourns G R) :
    Calls Try.prog 36 #[.pointer (some ⟨P, 0, none⟩)] w fun e w' => e = .returned (.tuple #[]) ∧ Held w' base P R ∧ Below base w w' := by
  have hbase := held_base H
  have H0 : Hid (∃ Gk, Held w base P Gk ∧ Right Gk ∧ Mourns Gk R ∧ Below base w w) := ⟨G, H, hr, hM, (Below.refl _ w).mono hbase⟩
  clear H hr hM
  go_enter Try.func36, Try.ntmps36
  go_wp2_with fail
  go_loopw [2] (fun v wr => ∃ v0, v0 = v ∧ ∃ Gk, Held wr base P Gk ∧ Right Gk ∧ Mourns Gk R ∧ Below base w wr) (fun _ wr => ephW wr P)
  case atStart => exact ⟨_, rfl, H0.out⟩
  case round =>
    obtain ⟨v0, hv0, Gk, hH, hR, hMk, hBk⟩ := hrel
    clear hv0
    obtain ⟨wr0, hwr0⟩ : ∃ x, x = wr := ⟨_, rfl⟩
    have HH : Hid _ := hH
    have hszr := held_base hH
    obtain ⟨o, r, m, ms, T, O, N, hb'⟩ := hH
    obtain ⟨a1, n1, c1, a2, n2, c2, a3, n3, c3, e1, e2, e3⟩ := graphAt_slices (ownG_at O)
    subst e1 e2 e3
    obtain ⟨ps, his⟩ := isG_ex hR.gOk
    have GP := l7Grieving_any (ownG_at O) hR.gOk his
    obtain ⟨z0, z1, z2, z3, z4, _⟩ := five_cells T
    have HR : Hid _ := hR
    have HM : Hid _ := hMk
    have HB : Hid _ := hBk
    clear T O N hb' hR hMk hBk H0
    go_wp2_with fail
    refine GP.mono ?_
    rintro e w3 ⟨v3, rfl, o3, b3⟩
    obtain ⟨pa, pc, hv3⟩ := ownT_slice (t := 2) o3
    rw [List.length_map] at hv3
    subst hv3
    have HH3 : Hid (HeldA w3 base P Gk (blk (.slice pa ps.length pc))) := heldA_new HH.out b3 fun k hk => (blk_lt o3 k hk).1
    have HB3 : Hid (Below base w w3) := HB.out.trans (b3.mono hszr)
    have HO3 : Hid (OwnT 2 w3 wr0.heap.size (.slice pa ps.length pc) (idsG Gk.objs ps)) := by rw [hwr0]; exact o3
    clear hwr0
    have HIS : Hid _ := his
    have hps := isG_len HR.out.gOk his
    have HEP : Hid (ephW _ P = eph Gk.objs) := ephW_held HH.out
    clear GP z0 z1 z2 z3 z4 o3 b3 his HB HH
    by_cases hn : ps = []
    · subst hn
      have e : R = Gk := mourns_unique HM.out ⟨[], HIS.out, rfl⟩
      subst e
      have hl : ([] : List Nat).length = 0 := rfl
      clear HIS HM HO3
      go_wp2
      first
        | exact bodyPost_ret (results_none rfl _ _ _) rfl ⟨rfl, HH3.out.held, HB3.out⟩
        | (go_ret; exact ⟨rfl, HH3.out.held, HB3.out⟩)
    · have HM2 : Hid _ := mourns_next HM.out HIS.out hn
      have hpos : ¬ (ps.length : Int) = 0 := by
        have := List.length_pos_iff.2 hn
        omega
      clear HM
      go_wp2_with fail
      have HPM : Hid (∀ p ∈ ps, p < Gk.objs.length) := fun p hp => grv_lt ((HIS.out.2 p).1 hp)
      go_loopw [3] (fun p wz => ∃ k : Nat, k ≤ ps.length ∧ p = .int .i64 k ∧ HeldA wz base P (mournR Gk (ps.take k)) (blk (.slice pa ps.length pc)) ∧ OwnT 2 wz wr0.heap.size (.slice pa ps.length pc) (idsG Gk.objs ps) ∧ Below base w wz) (fun p _ => ps.length - (intOf p).toNat)
      case atStart => exact ⟨0, Nat.zero_le _, rfl, HH3.out, HO3.out, HB3.out⟩
      case round =>
        obtain ⟨k, hk, rfl, hA, hO, hBz⟩ := hrel
        by_cases hkl : k < ps.length
        · obtain ⟨g, rfl, zc, lg⟩ := ownI_cell hO (i := k) (by rw [List.length_map]; exact hkl)
          have hpin := HPM.out (ps.getD k 0) (by rw [List.getD_eq_getElem?_getD, List.getElem?_eq_getElem hkl]; exact List.getElem_mem hkl)
          have hid0 : (idsG Gk.objs ps).getD k 0 = ((mournR Gk (ps.take k)).objs.getD (ps.getD k 0) obD).id := by
            rw [id_of_map (mournR_ids (ps.take k) Gk), List.getD_eq_getElem?_getD, List.getElem?_map, List.getElem?_eq_getElem hkl, List.getD_eq_getElem?_getD (l := ps), List.getElem?_eq_getElem hkl]
            rfl
          rw [hid0] at zc
          have HSN : Hid _ := mournR_snoc Gk hkl
          have hl0 := mournR_len (ps.take k) Gk
          have hr0 : Right (mournR Gk (ps.take k)) := right_mournR HR.out fun q hq => HPM.out q (List.mem_of_mem_take hq)
          generalize mournR Gk (ps.take k) = Gq at *
          generalize ps.getD k 0 = pp at *
          rw [← hl0] at hpin
          have hat := atI_own hr0 hpin
          have h200 := (gOk_len hr0.gOk).1
          obtain ⟨q0, c0, r1, r2, r3, m1, m2, m3, ms', sa, sc, T, O, N, hb, HS, him, _, _, _⟩ := heldA_obj hA hpin
          obtain ⟨z0, z1, z2, z3, z4, _⟩ := five_cells T
          have hml := own_len O
          have L6 := l6At_any (w := wr.drew) (show GraphAt wr.drew _ _ _ _ _ from ownG_at O) (show ms'.length ≤ 1048576 by omega) (Gq.objs.getD pp obD).id
          rw [hat] at L6
          generalize hid1 : (Gq.objs.getD pp obD).id = id0 at *
          have HID : Hid _ := hid1
          clear hid1
          have HALL : Hid (∀ w4, w4 = wr.drew.alloc (gb (.slice (some ⟨q0, 0, none⟩) Gq.objs.length c0) (.slice r1 r2 r3) (.slice m1 m2 m3) Gq.next Gq.seed) →
              (w4.cell? ⟨P, 0, none⟩ = some (.slice (some ⟨q0, 0, none⟩) Gq.objs.length c0) ∧ (∃ u, w4.cell? ⟨q0, pp * 5 + 2, none⟩ = some (.int .i64 u)) ∧ w4.frozen? ⟨q0, pp * 5 + 2, none⟩ = false) ∧
              (HeldA (w4.setCell ⟨q0, pp * 5 + 2, none⟩ (.int .i64 0)) base P { Gq with objs := plainAt Gq.objs pp } (blk (.slice (some ⟨g, 0, none⟩) ps.length pc)) ∧ OwnT 2 (w4.setCell ⟨q0, pp * 5 + 2, none⟩ (.int .i64 0)) wr0.heap.size (.slice (some ⟨g, 0, none⟩) ps.length pc) (idsG Gk.objs ps) ∧ Below base w (w4.setCell ⟨q0, pp * 5 + 2, none⟩ (.int .i64 0)) ∧ (w4.setCell ⟨q0, pp * 5 + 2, none⟩ (.int .i64 0)).cell? ⟨g, k, none⟩ = some (.int .i64 id0))) := by
            rintro w4 hw4
            have b4 : Below wr.heap.size wr w4 := by rw [hw4]; exact (Below.refl wr.heap.size wr).drew.alloc (show wr.heap.size ≤ wr.drew.heap.size from Nat.le_refl _) _
            have z0' := (b4.cell (p := ⟨P, 0, none⟩) (cell_lt z0)).trans z0
            have zc' := (b4.cell (p := ⟨g, k, none⟩) (cell_lt zc)).trans zc
            have hA4 := heldA_ch hA b4
            have hO4 : OwnT 2 w4 wr0.heap.size (.slice (some ⟨g, 0, none⟩) ps.length pc) (idsG Gk.objs ps) := row_below hO b4
            obtain ⟨zu, fz, nP, nS, HA1, B1⟩ := heldA_plainQ hA4 hpin z0'
            have C1 := one_ch w4 q0 (pp * 5 + 2) (.int .i64 0)
            refine ⟨⟨z0', zu, fz⟩, HA1, row_ch hO4 C1 (fun x hx e => nS ((List.mem_singleton.1 e) ▸ hx)), (hBz.trans (b4.mono (Nat.le_trans hbase hBz.size))).trans B1, ch_cellR C1 (fun e => nS ((List.mem_singleton.1 e) ▸ (by simp [blk_some]))) zc'⟩
          have hkl' : (k : Int) < (ps.length : Int) := by omega
          have hpp' : pp < Gq.objs.length := hpin
          clear hA hO hBz hl0 hr0 HO3 HB3 HH3 T O N HS him hb hml hat
          go_wp2_with fail
          go_region_law (go_simp; go_at_call 69; refine L6.mono ?_; clear L6; rintro e w4 ⟨rfl, hw4⟩; obtain ⟨⟨y0, ⟨u, y1⟩, y2⟩, yy⟩ := HALL.out w4 hw4; have HY : Hid _ := yy; clear yy hw4 HALL)
          all_goals
            generalize hW1 : w4.setCell ⟨q0, pp * 5 + 2, none⟩ (.int .i64 0) = W1 at *
            clear hW1 z0 z1 z2 z3 z4 zc y0 y1 y2
            obtain ⟨HA1, hO1, hB1, zc1⟩ := HY.out
            obtain ⟨q1, c1', r1', r2', r3', m1', m2', m3', ms2, sa2, sc2, T, O, N, hb, HS, _, _, _, _⟩ := heldA_obj HA1 (i := pp) (by rw [plain_len]; exact hpin)
            have em : m2' = Gq.mourned.length := by
              obtain ⟨_, ⟨h1, h2⟩ | ⟨g', cap', cur, h1, _⟩⟩ := O.2.2.2.1
              · injection h1 with _ h3 _
                have h2' : Gq.mourned.length = 0 := h2
                omega
              · injection h1
            obtain ⟨_, _, t2, _, _, _⟩ := five_cells T
            have HO1 : Hid _ := hO1
            have HB1 : Hid _ := hB1
            have HT : Hid _ := T
            have HO : Hid _ := O
            have HN : Hid _ := N
            have HHS : Hid _ := HS
            have HHA : Hid _ := HA1
            have HBB : Hid _ := hb
            subst em
            clear HY hO1 hB1 T O N HS HA1 hb
            by_cases h40 : Gq.mourned.length < 40
            · have h40' : (Gq.mourned.length : Int) < 40 := by omega
              go_wp2_with fail
              have BX1 : Below W1.heap.size W1 (W1.alloc (rb (2, id0))) := (Below.refl _ _).alloc (Nat.le_refl _) _
              have BX3 := BX1.drew
              have p2' := (BX1.cell (p := ⟨P, 2, none⟩) (cell_lt t2)).trans t2
              have zc1' := (BX1.cell (p := ⟨g, k, none⟩) (cell_lt zc1)).trans zc1
              have hb1 : base ≤ W1.heap.size := Nat.le_trans hbase HB1.out.size
              have HNW : Hid (∀ i u, (cellsR [((2, id0) : Rf)])[i]? = some u → (W1.alloc (rb (2, id0))).drew.cell? ((⟨W1.heap.size, 0, none⟩ : Addr).add i) = some u) := World.news_of_block (heap_alloc_new W1 (rb (2, id0)))
              have HON : Hid (∀ u ∈ cellsR [((2, id0) : Rf)], u.oneCell' = true) := cellsR_one _
              have T5 := five_below HT.out BX3
              have O5 := ownG_below (G := { Gq with objs := plainAt Gq.objs pp }) (o := .slice (some ⟨q1, 0, none⟩) (plainAt Gq.objs pp).length c1') (r := .slice r1' r2' r3') (m := .slice m1' Gq.mourned.length m3') (ms := ms2) (base := base) HO.out BX3
              have HROW : Hid (_) := O5.2.2.2.1
              have HAPP : Hid (∀ (v' : Value) (w10 : World), w10.ownsRow base 36 2 v' (Gq.mourned.length + 1) (cellsR Gq.mourned ++ cellsR [((2, id0) : Rf)]) → (W1.alloc (rb (2, id0))).drew.grownBy w10 (Value.slice m1' Gq.mourned.length m3').ownBlock → (v'.ownBlock = (Value.slice m1' Gq.mourned.length m3').ownBlock ∨ v'.ownBlock = some (W1.alloc (rb (2, id0))).drew.heap.size) → w10.cell? ⟨P, 2, none⟩ = some (.slice m1' Gq.mourned.length m3') ∧ w10.frozen? ⟨P, 2, none⟩ = false ∧ HeldA (w10.setCell ⟨P, 2, none⟩ v') base P (mournR Gk (ps.take (k + 1))) (blk (.slice (some ⟨g, 0, none⟩) ps.length pc)) ∧ OwnT 2 (w10.setCell ⟨P, 2, none⟩ v') wr0.heap.size (.slice (some ⟨g, 0, none⟩) ps.length pc) (idsG Gk.objs ps) ∧ Below base w (w10.setCell ⟨P, 2, none⟩ v')) := fun v' w10 h1 h2 h3 => by
                obtain ⟨k1, k2, k3, _, k5⟩ := heldA_mourn (G := { Gq with objs := plainAt Gq.objs pp }) T5 O5 HN.out HBB.out HHS.out (fun x hx => Nat.lt_of_lt_of_le (blk_lt HO1.out x hx).2 BX3.size) (2, id0) h1 h2 h3
                refine ⟨k1, k2, ?_, row_ch (row_ch (row_below HO1.out BX3) (ch_grown h2) (fun x hx e => (HHS.out x hx).2 (by simp only [gblk, List.mem_append]; exact .inr e))) (one_ch w10 P 2 v') (fun x hx e => (HHS.out x hx).1 (List.mem_singleton.1 e)), HB1.out.trans ((BX3.mono hb1).trans k5)⟩
                rw [HSN.out]
                unfold mourn1
                rw [if_pos h40, HID.out]
                exact k3
              have hbX3 : base ≤ (W1.alloc (rb (2, id0))).drew.heap.size := Nat.le_trans hb1 BX3.size
              obtain ⟨i0, hi, hz0, hz1, hz2⟩ := info_parts infoR
              have HI : Hid _ := And.intro hi (And.intro hz0 (And.intro hz1 hz2))
              clear hi hz0 hz1 hz2 T5 O5 BX1 BX3
              go_region_law (refine step_append_own_at rfl (.tmp 41) (.tmp 47) 25 rfl base 36 i0 (.agg #[.int .i64 0, .int .i64 0]) 2 16 Try.underlying25 HI.out.1 HI.out.2.1 HI.out.2.2.1 HI.out.2.2.2 rfl (by decide) (.slice m1' Gq.mourned.length m3') Gq.mourned.length (cellsR Gq.mourned) rfl HROW.out ⟨W1.heap.size, 0, none⟩ 1 1 (cellsR [((2, id0) : Rf)]) rfl rfl HNW.out HON.out (by unfold maxLen; omega) (by omega) hbX3 ?_; intro v' w10 hrow hg hat; obtain ⟨gg, cc, rfl⟩ := rowR_form hrow (by omega); obtain ⟨pp0, pf, hh⟩ := HAPP.out _ w10 hrow hg hat; have HDF : Hid _ := hh; clear hrow hg hat hh)
              all_goals
                go_wp2
                first
                  | exact ⟨⟨k + 1, by omega, by simp, HDF.out.1, HDF.out.2.1, HDF.out.2.2⟩, by simp [intOf]; omega⟩
                  | exact ⟨⟨_, _, _, ⟨k + 1, by omega, by simp, HDF.out.1, HDF.out.2.1, HDF.out.2.2⟩, rfl, rfl, rfl⟩, by simp [intOf]; omega⟩
            · have h40' : ¬ (Gq.mourned.length : Int) < 40 := by omega
              have HNX : Hid (HeldA W1 base P (mournR Gk (ps.take (k + 1))) (blk (.slice (some ⟨g, 0, none⟩) ps.length pc))) := by
                show HeldA _ _ _ _ _
                rw [HSN.out]
                unfold mourn1
                rw [if_neg h40]
                exact HHA.out
              go_wp2
              exact ⟨⟨k + 1, by omega, by simp, HNX.out, HO1.out, HB1.out⟩, by simp [intOf]; omega⟩
        · have e : k = ps.length := by omega
          subst e
          rw [List.take_length] at hA
          have HX : Hid _ := hA.held
          have HBX : Hid _ := hBz
          have HRX : Hid _ := right_mournR HR.out HPM.out
          clear hA hBz hO
          go_wp2
          exact ⟨⟨_, rfl, _, HX.out, HRX.out, HM2.out, HBX.out⟩, by rw [ephW_held HX.out, HEP.out]; exact eph_round HIS.out hn⟩
end Go.Proofs.Ytdogibjgogcdkac.gr
namespace Go.Proofs.Ytdogibjgogcdkac.gr
open Go.RowKit rows heads
set_option maxRecDepth 100000

set_option maxHeartbeats 8000000 in
theorem sMourning_any {w : World} {o r m : Value} {ms : List MO} {G R : Gr} (h : GraphAt w o r m ms G) (hs : gSize ms G ≤ 1048576) (hR : gOk G = true → Mourns G R) (h0 : gOk G = false → R = gr0) :
    Calls Try.prog 11 #[gv o r m G.next G.seed] w fun e w' => ∃ o' r' m' rs, e = .returned (gv o' r' m' R.next R.seed) ∧ OwnG w' w.heap.size o' r' m' rs R ∧ Below w.heap.size w w' := by
  obtain ⟨a1, n1, c1, a2, n2, c2, a3, n3, c3, e1, e2, e3⟩ := graphAt_slices h
  subst e1 e2 e3
  generalize hn0 : w.heap.size = n0 at *
  have B0 : Below n0 w ((w.alloc (gb (.slice a1 n1 c1) (.slice a2 n2 c2) (.slice a3 n3 c3) G.next G.seed)).alloc (gb (.slice none 0 0) (.slice none 0 0) (.slice none 0 0) 0 0)) := (((Below.refl _ w).alloc (by first | omega | (simp; omega)) _).alloc (by first | omega | (simp; omega)) _)
  have TP : Five ((w.alloc (gb (.slice a1 n1 c1) (.slice a2 n2 c2) (.slice a3 n3 c3) G.next G.seed)).alloc (gb (.slice none 0 0) (.slice none 0 0) (.slice none 0 0) 0 0)) n0 27 (.slice a1 n1 c1) (.slice a2 n2 c2) (.slice a3 n3 c3) (.int .i64 G.next) (.int .i64 G.seed) := by
    rw [← hn0]
    exact heap_push (heap_alloc_new _ _)
  have TR : Five ((w.alloc (gb (.slice a1 n1 c1) (.slice a2 n2 c2) (.slice a3 n3 c3) G.next G.seed)).alloc (gb (.slice none 0 0) (.slice none 0 0) (.slice none 0 0) 0 0)) (n0 + 1) 27 (.slice none 0 0) (.slice none 0 0) (.slice none 0 0) (.int .i64 0) (.int .i64 0) := by
    rw [show n0 + 1 = (w.alloc (gb (.slice a1 n1 c1) (.slice a2 n2 c2) (.slice a3 n3 c3) G.next G.seed)).heap.size by simp; omega]
    exact heap_alloc_new _ _
  have hX : n0 + 2 ≤ ((w.alloc (gb (.slice a1 n1 c1) (.slice a2 n2 c2) (.slice a3 n3 c3) G.next G.seed)).alloc (gb (.slice none 0 0) (.slice none 0 0) (.slice none 0 0) 0 0)).heap.size := by simp; omega
  have HG : Hid (∀ {X : World}, Below n0 w X → GraphAt X (.slice a1 n1 c1) (.slice a2 n2 c2) (.slice a3 n3 c3) ms G) := fun {X} hb => graphAt_below h (by rw [hn0]; exact hb)
  have GO := sGraphOk_any (HG.out B0) hs
  have HC : Hid (gOk G = true → ∀ (base P : Nat) (W : World), Held W base P G → Calls Try.prog 36 #[.pointer (some ⟨P, 0, none⟩)] W fun e w' => e = .returned (.tuple #[]) ∧ Held w' base P R ∧ Below base W w') := fun ok base P W hH => l7Mourn_any hH (right_of ok) (hR ok)
  have HE : Hid _ := h0
  clear h hR h0
  go_enter Try.func11, Try.ntmps11
  go_wp2_with fail
  generalize ((w.alloc (gb (.slice a1 n1 c1) (.slice a2 n2 c2) (.slice a3 n3 c3) G.next G.seed)).alloc (gb (.slice none 0 0) (.slice none 0 0) (.slice none 0 0) 0 0)) = X at *
  refine GO.mono ?_
  rintro e w1 ⟨rfl, b1⟩
  have B1 := B0.trans (b1.mono (by omega))
  have TP1 := five_below TP b1
  have TR1 := five_below TR b1
  have s1 : n0 + 2 ≤ w1.heap.size := Nat.le_trans hX b1.size
  clear GO TP TR B0 b1 hX
  obtain ⟨v0, v1, v2, v3, v4, vf⟩ := five_cells TR1
  have g0 := vf 0
  have g1 := vf 1
  have g2 := vf 2
  have g3 := vf 3
  have g4 := vf 4
  cases ok : gOk G
  · have ERG := HE.out ok
    subst ERG
    clear HE
    have HTX : Hid _ := five_sets TR1 (.slice none 0 0) (.slice none 0 0) (.slice none 0 0) (.int .i64 0) (.int .i64 0)
    have HBX : Hid _ := five_belows B1 (show n0 ≤ n0 + 1 by omega) (.slice none 0 0) (.slice none 0 0) (.slice none 0 0) (.int .i64 0) (.int .i64 0)
    clear HC HG TP1 TR1 B1 vf
    go_wp2
    exact bodyPost_ret (res_gr rfl rfl HTX.out) rfl ⟨_, _, _, [], rfl, ownG_zero _ _, HBX.out⟩
  · clear HE
    have CG := l6Copy_any (HG.out B1) hs
    obtain ⟨z0, z1, z2, z3, z4, _⟩ := five_cells TP1
    have HC1 : Hid _ := HC.out ok
    have HTR1 : Hid _ := TR1
    have HB1 : Hid _ := B1
    clear HC HG TP1 TR1 B1 vf
    go_wp2_with fail
    refine CG.mono ?_
    rintro e w2 ⟨o', r', m', ns, rfl, OG, b2⟩
    obtain ⟨a1', n1', c1', a2', n2', c2', a3', n3', c3', e1, e2, e3⟩ := graphAt_slices (ownG_at OG)
    subst e1 e2 e3
    clear CG z0 z1 z2 z3 z4 v0 v1 v2 v3 v4 g0 g1 g2 g3 g4
    have s2 := b2.size
    have BA : Below w2.heap.size w2 (w2.alloc (gb (.slice a1' n1' c1') (.slice a2' n2' c2') (.slice a3' n3' c3') G.next G.seed)) := (Below.refl _ w2).alloc (Nat.le_refl _) _
    have HH : Held (w2.alloc (gb (.slice a1' n1' c1') (.slice a2' n2' c2') (.slice a3' n3' c3') G.next G.seed)) w1.heap.size w2.heap.size G :=
      ⟨_, _, _, ns, five_new w2 _ _ _ _ _ _, ownG_below OG BA, fun e => by have := (ownG_lt OG _ e).2; omega, s2⟩
    have B2 := (HB1.out.trans (b2.mono (by omega))).trans (BA.mono (by omega))
    have CL := HC1.out w1.heap.size w2.heap.size _ HH
    have HTR2 : Hid _ := five_below (five_below HTR1.out b2) BA
    have HB2 : Hid _ := B2
    have s3 : w1.heap.size ≤ (w2.alloc (gb (.slice a1' n1' c1') (.slice a2' n2' c2') (.slice a3' n3' c3') G.next G.seed)).heap.size := by simp; omega
    clear OG b2 BA HH B2 HC1 HTR1 HB1
    go_wp2_with (go_at_call 36; refine CL.mono ?_; rintro e w4 ⟨rfl, ⟨o4, r4, m4, rs, T4, O4, N4, _⟩, b4⟩; have HT4 : Hid _ := T4; have HO4 : Hid _ := O4; have HB4 : Hid _ := b4; clear T4 O4 b4 N4 CL; refine Hid.out ?_)
    have O4 := HO4.out
    have T4 := HT4.out
    have B4 := HB2.out.trans (HB4.out.mono (by omega))
    have TR4 : Five w4 (n0 + 1) 27 (.slice none 0 0) (.slice none 0 0) (.slice none 0 0) (.int .i64 0) (.int .i64 0) := (HB4.out.block (n0 + 1) (by omega)).trans HTR2.out
    obtain ⟨a1, n1, c1, a2, n2, c2, a3, n3, c3, e1, e2, e3⟩ := graphAt_slices (ownG_at O4)
    subst e1 e2 e3
    obtain ⟨z0, z1, z2, z3, z4, _⟩ := five_cells T4
    obtain ⟨v0, v1, v2, v3, v4, vf⟩ := five_cells TR4
    have g0 := vf 0
    have g1 := vf 1
    have g2 := vf 2
    have g3 := vf 3
    have g4 := vf 4
    have HOW : Hid _ := ownG_base (ownG_ch O4 (five_other (X := w4) (b := n0 + 1) (.slice a1 n1 c1) (.slice a2 n2 c2) (.slice a3 n3 c3) (.int .i64 R.next) (.int .i64 R.seed)) (fun x hx e => by have := (ownG_lt O4 x hx).1; rw [List.mem_singleton] at e; omega)) (show n0 ≤ w1.heap.size by omega)
    have HTX : Hid _ := five_sets TR4 (.slice a1 n1 c1) (.slice a2 n2 c2) (.slice a3 n3 c3) (.int .i64 R.next) (.int .i64 R.seed)
    have HBX : Hid _ := five_belows B4 (show n0 ≤ n0 + 1 by omega) (.slice a1 n1 c1) (.slice a2 n2 c2) (.slice a3 n3 c3) (.int .i64 R.next) (.int .i64 R.seed)
    clear vf O4 T4 B4 TR4 HO4 HT4 HB4 HB2 HTR2
    refine Go.Lib.hid ?_
    go_wp2
    exact bodyPost_ret (res_gr rfl rfl HTX.out) rfl ⟨_, _, _, rs, rfl, HOW.out, HBX.out⟩
end Go.Proofs.Ytdogibjgogcdkac.gr
