/-
  What the laws do with lists of refs: made anew, held against one another.
  Made from the template EntsX.
-/
import Derived.Test.YtdogibjgogcdkabRefs
import Derived.Deep.RegionLaw
namespace Go.Proofs.Ytdogibjgogcdkab.gr
open Go.RowKit rows
set_option maxRecDepth 100000

theorem infoR : (Try.prog.info? 67).map (fun i => (i.zero, i.size, i.bytes)) = some (some (.agg #[.int .i64 0, .int .i64 0]), 2, 16) := by kernel_rfl

theorem cellsR_set : ∀ (es : List Rf) (i : Nat) (e : Rf), ((cellsR es).set (i * 2) (.int .i64 e.1)).set (i * 2 + 1) (.int .i64 e.2) = cellsR (es.set i e)
  | [], i, e => by simp [cellsR]
  | d :: es, 0, e => by simp [cellsR]
  | d :: es, i + 1, e => by
    rw [show (i + 1) * 2 = i * 2 + 1 + 1 by omega]
    simp [cellsR, cellsR_set es i e]
theorem fullR_set {w : World} {b : Nat} {es : List Rf} (h : FullR w b es) (i : Nat) (e : Rf) : FullR ((w.setCell ⟨b, i * 2, none⟩ (.int .i64 e.1)).setCell ⟨b, i * 2 + 1, none⟩ (.int .i64 e.2)) b (es.set i e) := by
  have h1 := block_setCell h (i * 2) (.int .i64 e.1)
  have h2 := block_setCell h1 (i * 2 + 1) (.int .i64 e.2)
  refine h2.trans ?_
  rw [← cellsR_set es i e]
  simp
theorem fullR_cell {w : World} {b : Nat} {es : List Rf} (h : FullR w b es) {i : Nat} (hi : i < es.length) : w.cell? ⟨b, i * 2, none⟩ = some (.int .i64 (es.getD i refD).1) ∧ w.cell? ⟨b, i * 2 + 1, none⟩ = some (.int .i64 (es.getD i refD).2) := by
  have c := cellsR_at es i hi
  unfold FullR at h
  refine ⟨?_, ?_⟩
  · simp [World.cell?, h]; exact c.1
  · simp [World.cell?, h]; exact c.2
theorem fullR_frozen {w : World} {b : Nat} {es : List Rf} (h : FullR w b es) (i : Nat) : w.frozen? ⟨b, i, none⟩ = false := by
  unfold FullR at h
  simp [World.frozen?, h]
theorem setR_take {es : List Rf} {k : Nat} (h : k < es.length) : (es.take k ++ List.replicate (es.length - k) refD).set k (es.getD k refD) = es.take (k + 1) ++ List.replicate (es.length - (k + 1)) refD := by
  apply List.ext_getElem?
  intro i
  simp only [List.getElem?_set, List.getElem?_append, List.length_take, List.getElem?_take, List.getElem?_replicate, List.length_append, List.length_replicate]
  rcases Nat.lt_trichotomy i k with hi | hi | hi
  · grind
  · grind
  · grind
theorem made_refs (n : Nat) : (madeCells #[Value.int .i64 0, Value.int .i64 0] (n * 2)).toList = cellsR (List.replicate n refD) := by
  unfold madeCells
  rw [Array.toList_map, Array.toList_range]
  induction n with
  | zero => rfl
  | succ n ih =>
    rw [show (n + 1) * 2 = n * 2 + 1 + 1 by omega, List.range_succ, List.range_succ, List.replicate_succ', cellsR_append, ← ih]
    have h0 : n * 2 % 2 = 0 := by omega
    have h1 : (n * 2 + 1) % 2 = 1 := by omega
    simp [cellsR, h0, h1]

set_option maxHeartbeats 1000000 in
theorem likeRefs_same {w : World} {v1 v2 : Value} {es : List Rf} (h1 : RefsAt w v1 es) (h2 : RefsAt w v2 es) (hl : es.length ≤ 1048576) :
    Calls Try.prog 107 #[v1, v2] w fun e w' => e = .returned (.bool true) ∧ ∃ n, w' = w.drewN n := by
  obtain ⟨a, cap, rfl, hlc, hcm, _, hc⟩ := h1
  obtain ⟨a', cap', rfl, hlc', hcm', _, hc'⟩ := h2
  have HC : Hid _ := hc
  have HC' : Hid _ := hc'
  clear hc hc'
  go_enter Try.func107, Try.ntmps107
  go_wp2_with fail
  go_loopw [5] (fun i wr => ∃ k n : Nat, k ≤ es.length ∧ i = .int .i64 k ∧ wr = w.drewN n) (fun i _ => es.length - (intOf i).toNat)
  case atStart => exact ⟨0, 0, Nat.zero_le _, rfl, rfl⟩
  case round =>
    obtain ⟨k, n, hk, rfl, rfl⟩ := hrel
    by_cases hlt : k < es.length
    · obtain ⟨b, off, rfl, hb, hc⟩ := HC.out (by omega)
      obtain ⟨b', off', rfl, hb', hc'⟩ := HC'.out (by omega)
      have c0 := (hc k hlt).1
      have c1 := (hc k hlt).2
      have d0 := (hc' k hlt).1
      have d1 := (hc' k hlt).2
      clear hc hc' HC HC'
      generalize es.getD k refD = x at *
      obtain ⟨x, s⟩ := x
      go_wp2
      go_quiet (fail)
      go_wp2
      exact ⟨⟨k + 1, n + nq, by omega, by go_num, rfl⟩, by simp [intOf]; omega⟩
    · clear HC HC'
      go_wp2
      go_ret
      exact ⟨rfl, _, rfl⟩
end Go.Proofs.Ytdogibjgogcdkab.gr
