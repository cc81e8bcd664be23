/-
  Lists of objects made anew, and held against one another.
  Made from the template ObjsT.
-/
import Derived.Test.YthldaifnlnbpgaaObjsX
import Derived.Deep.RegionLaw
namespace Go.Proofs.Ythldaifnlnbpgaa.gr
open Go.RowKit rows heads
set_option maxRecDepth 100000

/-- One block that holds just these objects. -/
def FullO (w : World) (b : Nat) (ms : List MO) : Prop := w.heap[b]? = some (.cells (cellsO ms).toArray 59 (0, 0))
theorem fullO_own {w : World} {b base : Nat} {ms : List MO} (h : FullO w b ms) (hb : base ≤ b) (hm : ms.length ≤ maxLen) : OwnRow w base (.slice (some ⟨b, 0, none⟩) ms.length ms.length) ms :=
  ⟨cellsO_length ms, .inr ⟨b, ms.length, _, rfl, hb, h, Nat.le_refl _, hm, by simp [cellsO_length], List.take_of_length_le (by simp [cellsO_length])⟩⟩
theorem fullO_below {w w' : World} {b : Nat} {ms : List MO} (h : FullO w b ms) (hb : Below w.heap.size w w') : FullO w' b ms := (hb.block b (lt_of_block h)).trans h
theorem fullO_cell {w : World} {b : Nat} {ms : List MO} (h : FullO w b ms) {i : Nat} (hi : i < ms.length) : w.cell? ⟨b, i * 5, none⟩ = some (.int .i64 (ms.getD i moD).id) ∧ w.cell? ⟨b, i * 5 + 1, none⟩ = some (.int .i64 (ms.getD i moD).cls) ∧ w.cell? ⟨b, i * 5 + 2, none⟩ = some (.int .i64 (ms.getD i moD).fmt) ∧ w.cell? ⟨b, i * 5 + 3, none⟩ = some (.int .i64 (ms.getD i moD).hash) ∧ w.cell? ⟨b, i * 5 + 4, none⟩ = some (ms.getD i moD).sv := by
  obtain ⟨c0, c1, c2, c3, c4⟩ := cellsO_at ms i hi
  unfold FullO at h
  refine ⟨?_, ?_, ?_, ?_, ?_⟩
  all_goals simp [World.cell?, h]
  · exact c0
  · exact c1
  · exact c2
  · exact c3
  · exact c4
theorem fullO_frozen {w : World} {b : Nat} {ms : List MO} (h : FullO w b ms) (i : Nat) : w.frozen? ⟨b, i, none⟩ = false := by
  unfold FullO at h
  simp [World.frozen?, h]
theorem fullO_set {w : World} {b : Nat} {ms : List MO} (h : FullO w b ms) (i : Nat) (m : MO) : FullO (((((w.setCell ⟨b, i * 5, none⟩ (.int .i64 m.id)).setCell ⟨b, i * 5 + 1, none⟩ (.int .i64 m.cls)).setCell ⟨b, i * 5 + 2, none⟩ (.int .i64 m.fmt)).setCell ⟨b, i * 5 + 3, none⟩ (.int .i64 m.hash)).setCell ⟨b, i * 5 + 4, none⟩ m.sv) b (ms.set i m) := by
  have h1 := cells_setCell h (i * 5) (.int .i64 m.id)
  have h2 := cells_setCell h1 (i * 5 + 1) (.int .i64 m.cls)
  have h3 := cells_setCell h2 (i * 5 + 2) (.int .i64 m.fmt)
  have h4 := cells_setCell h3 (i * 5 + 3) (.int .i64 m.hash)
  have h5 := cells_setCell h4 (i * 5 + 4) m.sv
  refine h5.trans ?_
  rw [← cellsO_set ms i m]
  simp
/-- An object stored at the place k of a block. -/
abbrev put5 (X : World) (b k : Nat) (m : MO) : World := ((((X.setCell ⟨b, k * 5, none⟩ (.int .i64 m.id)).setCell ⟨b, k * 5 + 1, none⟩ (.int .i64 m.cls)).setCell ⟨b, k * 5 + 2, none⟩ (.int .i64 m.fmt)).setCell ⟨b, k * 5 + 3, none⟩ (.int .i64 m.hash)).setCell ⟨b, k * 5 + 4, none⟩ m.sv
theorem sets_ch {X : World} {b k0 k1 k2 k3 k4 : Nat} (u0 u1 u2 u3 u4 : Value) : Ch [b] X (((((X.setCell ⟨b, k0, none⟩ u0).setCell ⟨b, k1, none⟩ u1).setCell ⟨b, k2, none⟩ u2).setCell ⟨b, k3, none⟩ u3).setCell ⟨b, k4, none⟩ u4) := by
  have one : ∀ (Y : World) (k : Nat) (u : Value), Ch [b] Y (Y.setCell ⟨b, k, none⟩ u) := fun Y k u => ⟨rfl, rfl, rfl, by simp, fun j _ hn => Below.heap_setCell Y _ u j (fun e => hn (by simp [e]))⟩
  exact ((((one _ k0 _).trans (one _ k1 _)).trans (one _ k2 _)).trans (one _ k3 _)).trans (one _ k4 _)
theorem setM_snoc {rs : List MO} {n : Nat} (m : MO) (h : rs.length < n) : (rs ++ List.replicate (n - rs.length) moD).set rs.length m = (rs ++ [m]) ++ List.replicate (n - (rs.length + 1)) moD := by
  rw [List.set_append_right _ _ (Nat.le_refl _), Nat.sub_self]
  obtain ⟨d, hd⟩ : ∃ d, n - rs.length = d + 1 := ⟨n - rs.length - 1, by omega⟩
  rw [hd, List.replicate_succ, show n - (rs.length + 1) = d by omega]
  simp
theorem made_objs (n : Nat) : (madeCells #[Value.int .i64 0, .int .i64 0, .int .i64 0, .int .i64 0, .slice none 0 0] (n * 5)).toList = cellsO (List.replicate n moD) := by
  unfold madeCells
  rw [Array.toList_map, Array.toList_range]
  induction n with
  | zero => rfl
  | succ n ih =>
    rw [show (n + 1) * 5 = n * 5 + 1 + 1 + 1 + 1 + 1 by omega, List.range_succ, List.range_succ, List.range_succ, List.range_succ, List.range_succ, List.replicate_succ', cellsO_append, ← ih]
    have h0 : n * 5 % 5 = 0 := by omega
    have h1 : (n * 5 + 1) % 5 = 1 := by omega
    have h2 : (n * 5 + 1 + 1) % 5 = 2 := by omega
    have h3 : (n * 5 + 1 + 1 + 1) % 5 = 3 := by omega
    have h4 : (n * 5 + 1 + 1 + 1 + 1) % 5 = 4 := by omega
    simp [cellsO, h0, h1, h2, h3, h4]
theorem full_of_made {w : World} {base g n : Nat} {cs : List Value} {ms : List MO} (h : w.ownsRow base 59 5 (.slice (some ⟨g, 0, none⟩) n n) n cs) (hcs : cs = cellsO ms) : FullO w g ms := by
  subst hcs
  obtain ⟨h0, ⟨h1, _⟩ | ⟨g', cap, cur, h1, hg, hh, hle, hm, hs, ht⟩⟩ := h
  · cases h1
  · injection h1 with e1 e2 e3
    injection e1 with e1
    injection e1 with e1
    subst e1 e3
    unfold FullO
    rw [hh]
    rw [List.take_of_length_le (by simpa using Nat.le_of_eq hs)] at ht
    rw [← ht]
theorem blks_append (ms ns : List MO) : blks (ms ++ ns) = blks ms ++ blks ns := by simp [blks]
theorem take_succM {ms : List MO} {k : Nat} (h : k < ms.length) : ms.take (k + 1) = ms.take k ++ [ms.getD k moD] := by
  rw [List.take_add_one, List.getD_eq_getElem?_getD, List.getElem?_eq_getElem h]
  rfl

set_option maxHeartbeats 4000000 in
theorem toObjS_any {w : World} {v : Value} {ms : List MO} (h : ObjsAt w v ms) (hl : ms.length ≤ 1048576) (hsl : ∀ m ∈ ms, m.slots.length ≤ 1048576) :
    Calls Try.prog 19 #[v] w fun e w' => ∃ (u : Value) (rs : List MO), e = .returned u ∧ rs.map MO.abs = ms.map MO.abs ∧ OwnO w' w.heap.size u rs ∧ Below w.heap.size w w' := by
  obtain ⟨⟨a, cap, rfl, hlc, hcm, _, hc⟩, hrefs⟩ := h
  obtain ⟨i0, hi, hz0, hz1, hz2⟩ := info_parts infoO
  have HC : Hid _ := hc
  have HRF : Hid _ := hrefs
  clear hc hrefs
  go_enter Try.func19, Try.ntmps19
  go_wp2_with (at_make; refine wpList_make_full _ rfl _ _ 27 rfl w.heap.size 59 i0 (.agg #[.int .i64 0, .int .i64 0, .int .i64 0, .int .i64 0, .slice none 0 0]) 5 Try.underlying27 hi hz0 hz1 _ _ _ _ ms.length rfl rfl rfl rfl (by rw [hz2]; omega) (by unfold maxLen; omega) (Nat.le_refl _) ?_; intro w1 hown hgrow)
  have F : FullO w1 w.heap.size ([] ++ List.replicate (ms.length - 0) moD) := full_of_made hown (by simpa [Value.cells] using made_objs ms.length)
  have B : Below w.heap.size w w1 := (Below.refl _ _).grown hgrow (Nat.le_refl _) (fun k e => by cases e)
  clear hown hgrow hi hz0 hz1 hz2
  go_loopw [4] (fun i wr => ∃ rs : List MO, rs.length ≤ ms.length ∧ i = .int .i64 (rs.length : Nat) ∧ rs.map MO.abs = (ms.take rs.length).map MO.abs ∧ FullO wr w.heap.size (rs ++ List.replicate (ms.length - rs.length) moD) ∧ (∀ m ∈ rs, OwnR wr w.heap.size m.sv m.slots) ∧ (w.heap.size :: blks rs).Nodup ∧ Below w.heap.size w wr) (fun i _ => ms.length - (intOf i).toNat)
  case atStart => exact ⟨[], Nat.zero_le _, rfl, rfl, F, (fun m hm => by cases hm), by simp [blks], B⟩
  case round =>
    obtain ⟨rs, hk, rfl, hab, Fr, Or, Nr, Br⟩ := hrel
    clear F B
    by_cases hlt : rs.length < ms.length
    · obtain ⟨b, off, rfl, hb, hc⟩ := HC.out (by omega)
      obtain ⟨q0, q1, q2, q3, q4⟩ := hc rs.length hlt
      have c0 := (Br.cell (p := ⟨b, off + rs.length * 5, none⟩) hb).trans q0
      have c1 := (Br.cell (p := ⟨b, off + rs.length * 5 + 1, none⟩) hb).trans q1
      have c2 := (Br.cell (p := ⟨b, off + rs.length * 5 + 2, none⟩) hb).trans q2
      have c3 := (Br.cell (p := ⟨b, off + rs.length * 5 + 3, none⟩) hb).trans q3
      have c4 := (Br.cell (p := ⟨b, off + rs.length * 5 + 4, none⟩) hb).trans q4
      have hmem := mem_getD hlt
      have T := toObj_any (w := wr) (ms.getD rs.length moD) (refsAt_below (HRF.out _ hmem) ⟨Br.os, Br.tape, Br.output, Br.size, Br.block⟩) (hsl _ hmem)
      have hsl' := hsl _ hmem
      have ts := take_succM hlt
      have lt0 := lt_of_block Fr
      obtain ⟨a1, n1, cc1, esv⟩ := refs_slice (HRF.out _ hmem)
      have HAB : Hid _ := hab
      have HTS : Hid _ := ts
      have HFr : Hid _ := Fr
      have HOr : Hid _ := Or
      have HN1 : Hid _ := (List.nodup_cons.1 Nr).1
      have HN2 : Hid _ := (List.nodup_cons.1 Nr).2
      have HBr : Hid _ := Br
      clear hc HC HRF q0 q1 q2 q3 q4 hab ts Fr Or Nr Br hmem
      generalize ms.getD rs.length moD = x at *
      obtain ⟨x0, x1, x2, x3, sv, es⟩ := x
      have esv : sv = .slice a1 n1 cc1 := esv
      subst esv
      go_wp2_with fail
      refine T.mono ?_
      rintro e w2 ⟨q, hq, rfl, F2, b2⟩
      obtain ⟨m', hm'⟩ : ∃ m' : MO, m' = ⟨x0, x1, x2, x3, .slice (some ⟨q, 0, none⟩) es.length es.length, es⟩ := ⟨_, rfl⟩
      have FF := fullO_below HFr.out b2
      have hfit : rs.length < (rs ++ List.replicate (ms.length - rs.length) moD).length := by simp; omega
      obtain ⟨d0, d1, d2, d3, d4⟩ := fullO_cell FF hfit
      have f0 := fullO_frozen FF (rs.length * 5)
      have f1 := fullO_frozen FF (rs.length * 5 + 1)
      have f2 := fullO_frozen FF (rs.length * 5 + 2)
      have f3 := fullO_frozen FF (rs.length * 5 + 3)
      have f4 := fullO_frozen FF (rs.length * 5 + 4)
      have F3 := fullO_set FF rs.length m'
      rw [setM_snoc m' hlt] at F3
      have CH := sets_ch (X := w2) (b := w.heap.size) (k0 := rs.length * 5) (k1 := rs.length * 5 + 1) (k2 := rs.length * 5 + 2) (k3 := rs.length * 5 + 3) (k4 := rs.length * 5 + 4) (.int .i64 m'.id) (.int .i64 m'.cls) (.int .i64 m'.fmt) (.int .i64 m'.hash) m'.sv
      have B3 := ((((((HBr.out.trans (b2.mono HBr.out.size)).setCell (p := ⟨w.heap.size, rs.length * 5, none⟩) (Nat.le_refl _) (.int .i64 m'.id)).setCell (p := ⟨w.heap.size, rs.length * 5 + 1, none⟩) (Nat.le_refl _) (.int .i64 m'.cls)).setCell (p := ⟨w.heap.size, rs.length * 5 + 2, none⟩) (Nat.le_refl _) (.int .i64 m'.fmt)).setCell (p := ⟨w.heap.size, rs.length * 5 + 3, none⟩) (Nat.le_refl _) (.int .i64 m'.hash)).setCell (p := ⟨w.heap.size, rs.length * 5 + 4, none⟩) (Nat.le_refl _) m'.sv)
      have hNr : w.heap.size ∉ blks rs ∧ (blks rs).Nodup := ⟨HN1.out, HN2.out⟩
      have hwq : w.heap.size < q := by omega
      have elen : es.length ≤ 1048576 := by
        have := hsl'
        simpa using this
      have O3 : ∀ m ∈ rs ++ [m'], OwnR (put5 w2 w.heap.size rs.length m') w.heap.size m.sv m.slots := by
        intro m hm
        rw [List.mem_append, List.mem_singleton] at hm
        rcases hm with hm | rfl
        · refine row_ch (ownR_below (HOr.out m hm) b2) CH (fun k hk e => ?_)
          rw [List.mem_singleton] at e
          subst e
          exact hNr.1 (by simp only [blks, List.mem_flatMap]; exact ⟨m, hm, hk⟩)
        · rw [hm']
          refine row_ch (fullR_own F2 (by omega) (by unfold maxLen; omega)) (hm' ▸ CH) (fun k hk e => ?_)
          simp only [blk, Value.ownBlock, Option.toList, List.mem_singleton] at hk e
          omega
      have N3 : (w.heap.size :: blks (rs ++ [m'])).Nodup := by
        have hq' : ∀ k ∈ blks rs, k < q := by
          intro k hk
          simp only [blks, List.mem_flatMap] at hk
          obtain ⟨m, hm, hk⟩ := hk
          have := (blk_lt (HOr.out m hm) k hk).2
          omega
        have eb : blks [m'] = [q] := by rw [hm']; simp [blks, blk, Value.ownBlock]
        rw [blks_append, eb, List.nodup_cons]
        refine ⟨?_, ?_⟩
        · rw [List.mem_append, List.mem_singleton]
          rintro (h1 | h1)
          · exact hNr.1 h1
          · omega
        · rw [List.nodup_append]
          refine ⟨hNr.2, by simp, fun x hx y hy => ?_⟩
          rw [List.mem_singleton] at hy
          have := hq' x hx
          omega
      have A3 : (rs ++ [m']).map MO.abs = (ms.take (rs ++ [m']).length).map MO.abs := by
        rw [List.length_append, List.length_singleton, HTS.out, List.map_append, List.map_append, HAB.out, hm']
        rfl
      have HF3 : Hid _ := F3
      have HB3 : Hid _ := B3
      have HO3 : Hid _ := O3
      have HN3 : Hid _ := N3
      have HA3 : Hid _ := A3
      have HL3 : Hid ((rs ++ [m']).length = rs.length + 1) := by show _ = _; simp
      clear F3 B3 O3 N3 A3 FF CH T HAB HTS HFr HOr HN1 HN2 HBr b2 F2 hNr
      subst hm'
      generalize ((rs ++ List.replicate (ms.length - rs.length) moD).getD rs.length moD) = y at *
      obtain ⟨y0, y1, y2, y3, yv, ys⟩ := y
      go_wp2
      exact ⟨⟨rs ++ [(MO.mk x0 x1 x2 x3 (.slice (some ⟨q, 0, none⟩) es.length es.length) es)], by rw [HL3.out]; omega, by rw [HL3.out]; go_num, HA3.out, by rw [HL3.out]; exact HF3.out, HO3.out, HN3.out, HB3.out⟩, by simp [intOf]; omega⟩
    · have e : rs.length = ms.length := by omega
      have O : OwnO wr w.heap.size (.slice (some ⟨w.heap.size, 0, none⟩) ms.length ms.length) rs := by
        have F0 : FullO wr w.heap.size rs := by
          rw [e] at Fr
          simpa using Fr
        have := fullO_own (base := w.heap.size) F0 (Nat.le_refl _) (by unfold maxLen; omega)
        rw [e] at this
        refine ⟨this, Or, ?_⟩
        have eb : blk (Value.slice (some ⟨w.heap.size, 0, none⟩) ms.length ms.length) = [w.heap.size] := rfl
        rw [eb]
        simpa using Nr
      have A : rs.map MO.abs = ms.map MO.abs := by
        rw [hab, e, List.take_length]
      have HO : Hid _ := O
      have HA : Hid _ := A
      have HB : Hid _ := Br
      clear O A Br Fr Or Nr hab HC HRF
      go_wp2
      go_ret
      exact ⟨_, rs, rfl, HA, HO, HB⟩
end Go.Proofs.Ythldaifnlnbpgaa.gr
