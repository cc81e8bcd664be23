/-
  What the laws do with lists of refs: made anew, held against one another.
  Made from the template EntsX.
-/
import Derived.Test.YthldaifnlnbpgaaRefs
import Derived.Deep.RegionLaw
namespace Go.Proofs.Ythldaifnlnbpgaa.gr
open Go.RowKit rows
set_option maxRecDepth 100000

theorem infoR : (Try.prog.info? 47).map (fun i => (i.zero, i.size, i.bytes)) = some (some (.agg #[.int .i64 0, .int .i64 0]), 2, 16) := by kernel_rfl

theorem toRef_any (e : Rf) (w : World) :
    Calls Try.prog 37 #[rv e] w fun r w' => r = .returned (rv e) ∧ Below w.heap.size w w' := by
  obtain ⟨x, s⟩ := e
  go_enter Try.func37, Try.ntmps37
  go_wp2
  refine bodyPost_ret (v := rv (x, s)) (by simp [results, Try.results37, go_sem, rv]) rfl ⟨rfl, ?_⟩
  repeat (first | exact Below.refl _ _ | refine Below.alloc ?_ (by simp; try omega) _ | refine Below.setCell ?_ (by simp; try omega) _)

theorem eqRef_same (e : Rf) (w : World) :
    Calls Try.prog 43 #[rv e, rv e] w fun r w' => r = .returned (.bool true) ∧ Below w.heap.size w w' := by
  obtain ⟨x, s⟩ := e
  have B : Below w.heap.size w ((w.alloc (rb (x, s))).alloc (rb (x, s))) := ((Below.refl _ w).alloc (Nat.le_refl _) _).alloc (by simp) _
  have hx : (x != x) = false := by simp
  have hs : (s != s) = false := by simp
  go_enter Try.func43, Try.ntmps43
  go_wp2
  go_ret
  exact ⟨rfl, B⟩

theorem cellsR_set : ∀ (es : List Rf) (i : Nat) (e : Rf), ((cellsR es).set (i * 2) (.int .i64 e.1)).set (i * 2 + 1) (.int .i64 e.2) = cellsR (es.set i e)
  | [], i, e => by simp [cellsR]
  | d :: es, 0, e => by simp [cellsR]
  | d :: es, i + 1, e => by
    rw [show (i + 1) * 2 = i * 2 + 1 + 1 by omega]
    simp [cellsR, cellsR_set es i e]
theorem fullR_set {w : World} {b : Nat} {es : List Rf} (h : FullR w b es) (i : Nat) (e : Rf) : FullR ((w.setCell ⟨b, i * 2, none⟩ (.int .i64 e.1)).setCell ⟨b, i * 2 + 1, none⟩ (.int .i64 e.2)) b (es.set i e) := by
  have h1 := block_setCell h (i * 2) (.int .i64 e.1)
  have h2 := block_setCell h1 (i * 2 + 1) (.int .i64 e.2)
  refine h2.trans ?_
  rw [← cellsR_set es i e]
  simp
theorem fullR_cell {w : World} {b : Nat} {es : List Rf} (h : FullR w b es) {i : Nat} (hi : i < es.length) : w.cell? ⟨b, i * 2, none⟩ = some (.int .i64 (es.getD i refD).1) ∧ w.cell? ⟨b, i * 2 + 1, none⟩ = some (.int .i64 (es.getD i refD).2) := by
  have c := cellsR_at es i hi
  unfold FullR at h
  refine ⟨?_, ?_⟩
  · simp [World.cell?, h]; exact c.1
  · simp [World.cell?, h]; exact c.2
theorem fullR_frozen {w : World} {b : Nat} {es : List Rf} (h : FullR w b es) (i : Nat) : w.frozen? ⟨b, i, none⟩ = false := by
  unfold FullR at h
  simp [World.frozen?, h]
theorem setR_take {es : List Rf} {k : Nat} (h : k < es.length) : (es.take k ++ List.replicate (es.length - k) refD).set k (es.getD k refD) = es.take (k + 1) ++ List.replicate (es.length - (k + 1)) refD := by
  apply List.ext_getElem?
  intro i
  simp only [List.getElem?_set, List.getElem?_append, List.length_take, List.getElem?_take, List.getElem?_replicate, List.length_append, List.length_replicate]
  rcases Nat.lt_trichotomy i k with hi | hi | hi
  · grind
  · grind
  · grind
theorem made_refs (n : Nat) : (madeCells #[Value.int .i64 0, Value.int .i64 0] (n * 2)).toList = cellsR (List.replicate n refD) := by
  unfold madeCells
  rw [Array.toList_map, Array.toList_range]
  induction n with
  | zero => rfl
  | succ n ih =>
    rw [show (n + 1) * 2 = n * 2 + 1 + 1 by omega, List.range_succ, List.range_succ, List.replicate_succ', cellsR_append, ← ih]
    have h0 : n * 2 % 2 = 0 := by omega
    have h1 : (n * 2 + 1) % 2 = 1 := by omega
    simp [cellsR, h0, h1]

set_option maxHeartbeats 1000000 in
theorem toRefS_any {w : World} {v : Value} {es : List Rf} (h : RefsAt w v es) (hl : es.length ≤ 1048576) :
    Calls Try.prog 20 #[v] w fun e w' => e = .returned (.slice (some ⟨w.heap.size, 0, none⟩) es.length es.length) ∧ FullR w' w.heap.size es ∧ Below w.heap.size w w' := by
  obtain ⟨a, cap, rfl, hlc, hcm, _, hc⟩ := h
  obtain ⟨i0, hi, hz0, hz1, hz2⟩ := info_parts infoR
  have HC : Hid _ := hc
  clear hc
  go_enter Try.func20, Try.ntmps20
  go_wp2_with (at_make; refine wpList_make_full _ rfl _ _ 28 rfl w.heap.size 47 i0 (.agg #[.int .i64 0, .int .i64 0]) 2 Try.underlying28 hi hz0 hz1 _ _ _ _ es.length rfl rfl rfl rfl (by rw [hz2]; omega) (by unfold maxLen; omega) (Nat.le_refl _) ?_; intro w1 hown hgrow)
  have F : FullR w1 w.heap.size (es.take 0 ++ List.replicate (es.length - 0) refD) := by
    have := made_refs es.length
    obtain ⟨_, ⟨h1, _⟩ | ⟨g', cap', cur, h1, hg, hh, hle, hm, hs, ht⟩⟩ := hown
    · cases h1
    · injection h1 with e1 e2 e3
      injection e1 with e1
      injection e1 with e1
      subst e1 e3
      unfold FullR
      rw [hh]
      congr 2
      have e4 : cur.toList.take (es.length * 2) = cur.toList := List.take_of_length_le (by simp [hs])
      rw [e4] at ht
      have e5 : cur.toList = cellsR (es.take 0 ++ List.replicate (es.length - 0) refD) := by
        rw [ht]
        simpa [Value.cells] using this
      rw [← e5]
  have B : Below w.heap.size w w1 := (Below.refl _ _).grown hgrow (Nat.le_refl _) (fun k e => by cases e)
  clear hown hgrow hi hz0 hz1 hz2
  go_loopw [4] (fun i wr => ∃ k : Nat, k ≤ es.length ∧ i = .int .i64 k ∧ FullR wr w.heap.size (es.take k ++ List.replicate (es.length - k) refD) ∧ Below w.heap.size w wr) (fun i _ => es.length - (intOf i).toNat)
  case atStart => exact ⟨0, Nat.zero_le _, rfl, F, B⟩
  case round =>
    obtain ⟨k, hk, rfl, Fr, Br⟩ := hrel
    clear F B
    by_cases hlt : k < es.length
    · obtain ⟨b, off, rfl, hb, hc⟩ := HC.out (by omega)
      have c0 := (Br.cell (p := ⟨b, off + k * 2, none⟩) hb).trans (hc k hlt).1
      have c1 := (Br.cell (p := ⟨b, off + k * 2 + 1, none⟩) hb).trans (hc k hlt).2
      have sT := setR_take hlt
      have T := toRef_any (es.getD k refD) wr
      have lt0 := lt_of_block Fr
      clear hc HC
      generalize hx : es.getD k refD = x at *
      obtain ⟨x, s⟩ := x
      have HFr : Hid _ := Fr
      have HBr : Hid _ := Br
      have hfit : k < (es.take k ++ List.replicate (es.length - k) refD).length := by simp; omega
      clear Fr Br hx
      go_wp2_with fail
      refine T.mono ?_
      rintro e w2 ⟨rfl, b2⟩
      have F2 := fullR_below HFr.out b2
      have d := fullR_cell F2 hfit
      have d0 := d.1
      have d1 := d.2
      have f0 := fullR_frozen F2 (k * 2)
      have f1 := fullR_frozen F2 (k * 2 + 1)
      have F3 := fullR_set F2 k (x, s)
      rw [sT] at F3
      have HF3 : Hid _ := F3
      have HB3 : Hid _ := ((HBr.out.trans (b2.mono HBr.out.size)).setCell (p := ⟨w.heap.size, k * 2, none⟩) (Nat.le_refl _) (.int .i64 x)).setCell (p := ⟨w.heap.size, k * 2 + 1, none⟩) (Nat.le_refl _) (.int .i64 s)
      clear F2 F3 d T HFr HBr b2 sT
      generalize ((es.take k ++ List.replicate (es.length - k) refD).getD k refD) = y at *
      obtain ⟨y, u⟩ := y
      go_wp2
      exact ⟨⟨k + 1, by omega, by go_num, HF3, HB3⟩, by simp [intOf]; omega⟩
    · have e : k = es.length := by omega
      subst e
      have F0 : FullR wr w.heap.size es := by simpa using Fr
      have HF : Hid (FullR wr w.heap.size es) := F0
      have HB : Hid (Below w.heap.size w wr) := Br
      clear Fr Br F0
      go_wp2
      go_ret
      exact ⟨rfl, HF, HB⟩

set_option maxHeartbeats 1000000 in
theorem eqRefS_same {w : World} {v1 v2 : Value} {es : List Rf} (h1 : RefsAt w v1 es) (h2 : RefsAt w v2 es) (hl : es.length ≤ 1048576) :
    Calls Try.prog 24 #[v1, v2] w fun e w' => e = .returned (.bool true) ∧ Below w.heap.size w w' := by
  obtain ⟨a, cap, rfl, hlc, hcm, _, hc⟩ := h1
  obtain ⟨a', cap', rfl, hlc', hcm', _, hc'⟩ := h2
  have HC : Hid _ := hc
  have HC' : Hid _ := hc'
  clear hc hc'
  go_enter Try.func24, Try.ntmps24
  go_wp2_with fail
  go_loopw [5] (fun i wr => ∃ k : Nat, k ≤ es.length ∧ i = .int .i64 k ∧ Below w.heap.size w wr) (fun i _ => es.length - (intOf i).toNat)
  case atStart => exact ⟨0, Nat.zero_le _, rfl, Below.refl _ _⟩
  case round =>
    obtain ⟨k, hk, rfl, Br⟩ := hrel
    by_cases hlt : k < es.length
    · obtain ⟨b, off, rfl, hb, hc⟩ := HC.out (by omega)
      obtain ⟨b', off', rfl, hb', hc'⟩ := HC'.out (by omega)
      have c0 := (Br.cell (p := ⟨b, off + k * 2, none⟩) hb).trans (hc k hlt).1
      have c1 := (Br.cell (p := ⟨b, off + k * 2 + 1, none⟩) hb).trans (hc k hlt).2
      have d0 := (Br.cell (p := ⟨b', off' + k * 2, none⟩) hb').trans (hc' k hlt).1
      have d1 := (Br.cell (p := ⟨b', off' + k * 2 + 1, none⟩) hb').trans (hc' k hlt).2
      clear hc hc' HC HC'
      have E := eqRef_same (es.getD k refD) wr.drew
      generalize es.getD k refD = x at *
      obtain ⟨x, s⟩ := x
      have HB : Hid _ := Br
      clear Br
      go_wp2_with fail
      go_region_law (go_simp; go_at_call 43; refine E.mono ?_; rintro e w2 ⟨rfl, b2⟩; have HB2 : Hid _ := HB.out.drew.trans (b2.mono HB.out.size); clear b2)
      all_goals go_wp2
      all_goals exact ⟨⟨k + 1, by omega, by go_num, HB2⟩, by simp [intOf]; omega⟩
    · have HB : Hid _ := Br
      clear Br HC HC'
      go_wp2
      go_ret
      exact ⟨rfl, HB⟩

end Go.Proofs.Ythldaifnlnbpgaa.gr
