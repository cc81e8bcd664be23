/-
  Chapter 5 as the program has it: names in a map, which is cleared where the list is not right.
  Made from the template ClassIMap.
-/
import Derived.Test.YtdogibjgogcdkabClassINames
import Derived.Maps.OwnSet
namespace Go.Proofs.Ytdogibjgogcdkab.ents
open Go.RowKit rows heads Go.Maps

theorem lawS : Keyed Try.prog 9 := string_keyed Try.underlying9
theorem zeroI (w : World) : (zeroValue 2).run Try.prog w = .ok (.int .i64 0) w := by kernel_rfl
theorem key_nk {s : ByteArray} (h : s.size ≤ 9223372036854775807) : keyOf Try.prog 9 (.string s) = some (nk s) := WideMaps.keyOf_string_mk Try.underlying9 h

theorem grownBel {w w' : World} (h : Below w.heap.size w w') (row : Option Nat) : w.grownBy w' row := ⟨h.os, h.tape, h.output, h.size, fun k hk _ => h.block k hk⟩

/-- 'clear(m)' on a map that is not nil. -/
theorem wpList_clear_map {H : Type} {P : Program} {w : World} {ops : Array Oper} {rest : List Oper} {o : Oper} {a : Act} {Q : Exit → Act → World → Prop}
    (hg : o.guard = none) (m : Operand) (t : TypeId) (hop : o.op = Op.call { callee := Callee.builtin Builtin.clear, args := #[m], argTypes := #[t] })
    (k e : TypeId) (ht : P.underlying t = some (.map k e)) {R : Value → Option (DataW H × List MemPlace)} {b n : Nat} {D : DataW H} (hm : a.eval m = .map (some b)) (hown : w.ownsMap P k R b n D)
    (hK : ∀ w', w.grownBy w' (some b) → wpList P ops Q rest (a.put o.dst (.tuple #[])) w') :
    wpList P ops Q (o :: rest) a w := by
  refine wpList_plain hg fun K' hK' => ?_
  obtain ⟨es, clock, hb, F, hs, rfl⟩ := hown
  have hrun : (Builtin.clear_ #[t] o.type #[.map (some b)]).run P w = .ok (.tuple #[]) { w with heap := w.heap.setIfInBounds b (.map #[] clock) } := by
    simp [Builtin.clear_, run_underlying ht, MapKept.run_getObj_map hb, MapKept.run_setObj_map _ hb, Result.andThen]
  unfold Oper.wp
  simp [execOp, hop, resolve, invoke, builtin, hm, hrun, Result.andThen]
  refine hK' _ _ (hK _ ⟨rfl, rfl, rfl, by simp, fun i _ hi => ?_⟩)
  exact ChangeMaps.heap_setBlock_other hb _ (fun e => hi (by rw [e]))

set_option maxRecDepth 100000 in
set_option maxHeartbeats 4000000 in
theorem namesOf_any {w : World} {v : Value} {es : List Ent} (h : EntsAt w v es) (hb : Borne es) :
    Calls Try.prog 84 #[v] w fun e w' => ∃ (b : Nat) (D : DataW Unit), e = .returned (.tuple #[.map (some b), .bool (clsOk es)]) ∧ (clsOk es = true → w'.ownsMap Try.prog 9 (plainElem Try.prog 2) b 40 D ∧ NM es es.length D) ∧ Below w.heap.size w w' := by
  have hmm := @run_makeMap Try.prog
  have h' := h
  obtain ⟨a, cap, rfl, hlc, hcm, _, hc⟩ := h
  have hcm' : cap ≤ 9223372036854775807 := hcm
  have HC : Hid _ := hc
  have HE : Hid _ := h'
  clear hc h'
  by_cases h40 : es.length ≤ 40
  case neg =>
    have h40' : (es.length : Int) > 40 := by omega
    have e : clsOk es = false := by unfold clsOk; simp [h40]
    rw [e]
    clear HC e HE
    go_enter Try.func84, Try.ntmps84
    go_wp2
    go_ret2
    exact ⟨_, .map [], rfl, (fun h => by cases h), (Below.refl _ _).alloc (Nat.le_refl _) _⟩
  have h40' : ¬ (es.length : Int) > 40 := by omega
  obtain ⟨R, hR⟩ : ∃ R, clsOk es = R := ⟨_, rfl⟩
  rw [hR]
  have HR : Hid _ := hR
  clear hR
  go_enter Try.func84, Try.ntmps84
  go_wp2_with fail
  go_loopw [14] (fun q wr => ∃ (k : Nat) (D : DataW Unit), k ≤ es.length ∧ q = .int .i64 k ∧ wr.ownsMap Try.prog 9 (plainElem Try.prog 2) w.heap.size k D ∧ NM es k D ∧ Below w.heap.size w wr) (fun q _ => es.length - (intOf q).toNat)
  case atStart => exact ⟨0, .map [], Nat.zero_le _, rfl, World.ownsMap_made _ _ _ _, nm_start es, (Below.refl _ _).alloc (Nat.le_refl _) _⟩
  case round =>
    obtain ⟨k, D, hk, rfl, hown, hnm, Br⟩ := hrel
    by_cases hlt : k < es.length
    · obtain ⟨b, off, rfl, hbl, hc⟩ := HC.out (by omega)
      have c0 := (Br.cell (p := ⟨b, off + k * 2, none⟩) hbl).trans (hc k hlt).1
      have c1 := (Br.cell (p := ⟨b, off + k * 2 + 1, none⟩) hbl).trans (hc k hlt).2
      have hbk := hb k hlt
      have HS : Hid _ := nm_step hnm
      have HB : Hid _ := Br
      have HO : Hid _ := hown
      clear hc HC Br hown hnm HE
      generalize es.getD k entD = x at *
      obtain ⟨x, s⟩ := x
      have N0 := ebAt_new wr x s
      have n0 := N0.1
      have n1 := N0.2
      have sX : wr.heap.size < (wr.alloc (eb (x, s))).heap.size := by simp
      have HBX : Hid _ := HB.out.alloc HB.out.size (eb (x, s))
      have HOX : Hid _ := World.ownsMap.alloc HO.out (eb (x, s))
      have hkey := key_nk (s := s) hbk.2
      have hpe : plainElem (H := Unit) Try.prog 2 (.int .i64 x) = some (.lit (.int .i64 x), []) := plainElem_int Try.underlying2 (WalkArith.wf_i64 hbk.1)
      have HK : Hid _ := hkey
      have HP : Hid _ := hpe
      clear N0 HB HO hkey hpe
      go_upto_region 7 with fail
      generalize (wr.alloc (Obj.cells #[.int .i64 x, .string s] 49)) = X at *
      generalize wr.heap.size = q at *
      clear c0 c1
      go_wp2_with (at_mapUpdate; refine wpList_mapUpdate_own _ rfl _ _ _ 98 rfl 9 2 lawS Try.underlying98 _ w.heap.size k _ rfl HOX.out (by unfold maxLen; omega) _ _ _ rfl rfl HK.out _ [] HP.out ?_; intro w1 hown1 hgrow1)
      refine ⟨⟨k + 1, _, by omega, by go_num, hown1, HS, ?_⟩, by simp [intOf]; omega⟩
      exact HBX.out.grown hgrow1 HBX.out.size (fun j hj => by cases hj; exact Nat.le_refl _)
    · obtain rfl : k = es.length := by omega
      have HNM : Hid _ := hnm
      have HO : Hid _ := hown
      have HB : Hid _ := Br
      have EN := entriesOk_any (entsAt_below HE.out Br) hb
      have hsz := hnm.size
      clear HC hown hnm Br HE
      by_cases hs : Maps.size D < es.length
      · have hs' : (Maps.size D : Int) < (es.length : Int) := by omega
        have ER : Hid (R = false) := by
          show R = false
          rw [← HR.out]
          refine clsOk_nd fun hd => ?_
          have := HNM.out.full hd
          omega
        clear HR HNM EN
        go_wp2_with (first
          | (at_len; refine wpList_len_own _ rfl _ 98 rfl 9 2 Try.underlying98 _ w.heap.size _ D rfl HO.out ?_)
          | (refine wpList_clear_map rfl _ 98 rfl 9 2 Try.underlying98 (b := w.heap.size) rfl HO.out ?_; intro w1 hg1))
        go_ret2
        exact ⟨_, D, by rw [ER.out]; rfl, (fun h => by rw [ER.out] at h; cases h), HB.out.grown hg1 HB.out.size (fun j hj => by cases hj; exact Nat.le_refl _)⟩
      · have hs' : ¬ (Maps.size D : Int) < (es.length : Int) := by omega
        have hd := HNM.out.less (by omega)
        cases de : allEn es
        · have ER : Hid (R = false) := by
            show R = false
            rw [← HR.out]
            cases e : clsOk es
            · rfl
            · rw [allEn_yes (fun i hi => enOk_of e hi)] at de; cases de
          rw [de] at EN
          clear HR HNM
          go_wp2_with (first
            | (at_len; refine wpList_len_own _ rfl _ 98 rfl 9 2 Try.underlying98 _ w.heap.size _ D rfl HO.out ?_)
            | (go_at_call 135; refine EN.mono ?_; rintro e w1 ⟨rfl, b1⟩; have HO1 : Hid (w1.ownsMap Try.prog 9 (plainElem Try.prog 2) w.heap.size es.length D) := World.ownsMap.kept HO.out (grownBel b1 none) (by simp); have HB1 : Hid _ := HB.out.trans (b1.mono HB.out.size); clear HO HB b1 EN)
            | (refine wpList_clear_map rfl _ 98 rfl 9 2 Try.underlying98 (b := w.heap.size) rfl HO1.out ?_; intro w2 hg2))
          go_ret2
          exact ⟨_, D, by rw [ER.out]; rfl, (fun h => by rw [ER.out] at h; cases h), HB1.out.grown hg2 HB1.out.size (fun j hj => by cases hj; exact Nat.le_refl _)⟩
        · have ER : Hid (R = true) := by
            show R = true
            rw [← HR.out]
            exact clsOk_of h40 (allEn_at de) hd
          rw [de] at EN
          clear HR
          go_wp2_with (first
            | (at_len; refine wpList_len_own _ rfl _ 98 rfl 9 2 Try.underlying98 _ w.heap.size _ D rfl HO.out ?_)
            | (go_at_call 135; refine EN.mono ?_; rintro e w1 ⟨rfl, b1⟩; have HO1 : Hid (w1.ownsMap Try.prog 9 (plainElem Try.prog 2) w.heap.size es.length D) := World.ownsMap.kept HO.out (grownBel b1 none) (by simp); have HB1 : Hid _ := HB.out.trans (b1.mono HB.out.size); clear HO HB b1 EN))
          go_ret2
          exact ⟨_, D, by rw [ER.out]; rfl, (fun _ => ⟨World.ownsMap.mono HO1.out h40, HNM.out⟩), HB1⟩
end Go.Proofs.Ytdogibjgogcdkab.ents
