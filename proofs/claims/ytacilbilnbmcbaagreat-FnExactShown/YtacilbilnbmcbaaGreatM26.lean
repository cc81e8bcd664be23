/-
  Chapter 10 as the program has it: what a word shows. Chapter 10 as the program has it: the memory while it is shown, beside a row that grows.
-/
import Derived.Test.YtacilbilnbmcbaaGreatShowI2
import Derived.Test.YtacilbilnbmcbaaGreatM13
namespace Go.Proofs.YtacilbilnbmcbaaGreat.hp
open Go.RowKit rows heads words walks Go.Maps
set_option maxRecDepth 100000
set_option linter.unusedVariables false
set_option linter.unusedSimpArgs false

theorem isI_notA {x : Int} (h : isI x = true) : isA x = false := by
  unfold isI at h
  unfold isA
  simp only [Bool.and_eq_true, beq_iff_eq, decide_eq_true_eq] at h
  have : ¬ x % 4 = 0 := by omega
  simp [this]
theorem fol_int {H : Hp} {x : Int} (h : isI x = true) : fol H x = x := fol_stop (by unfold toNote; rw [isI_notA h]; rfl)
theorem refW_int {H : Hp} {L : List Int} {x : Int} (h : isI x = true) : refW H L x = (1, iv x) := by unfold refW; rw [fol_int h, if_pos h]
theorem tgt_int {H : Hp} {x : Int} (h : isI x = true) : tgt H x = none := by unfold tgt; rw [fol_int h, if_neg (by rw [isI_notA h]; decide)]
theorem folA {H : Hp} {ps : List Int} (R : Rt H ps) : ∀ (n : Nat) (x : Int), rk H x ≤ n → wordIn H ps x = true → isA x = true → isA (fol H x) = true
  | n, x, hr, hx, hA => by
    cases e : toNote H x
    · rw [fol_stop e]; exact hA
    · obtain ⟨_, h2, h3, h4, h5⟩ := R.note hx e
      rw [h4]
      match n, hr with
      | 0, hr => omega
      | n + 1, hr => exact folA R n _ (by omega) h2 h3
theorem fol_notI {H : Hp} {ps : List Int} (R : Rt H ps) {x : Int} (hx : wordIn H ps x = true) (h : isI x = false) : isI (fol H x) = false := by
  cases dA : isA x
  · rw [fol_stop (by unfold toNote; rw [dA]; rfl)]; exact h
  · have hA := folA R _ x (Nat.le_refl _) hx dA
    cases e : isI (fol H x)
    · rfl
    · rw [isI_notA e] at hA; cases hA
theorem refW_no {H : Hp} {ps : List Int} (R : Rt H ps) {L : List Int} {x : Int} (hx : wordIn H ps x = true) (h : isI x = false) (hA : isA (fol H x) = false) : refW H L x = (0, 0) ∧ tgt H x = none := by
  refine ⟨?_, by unfold tgt; rw [if_neg (by rw [hA]; decide)]⟩
  unfold refW
  rw [if_neg (by rw [fol_notI R hx h]; decide), if_neg (by rw [hA]; decide)]
theorem refW_yes {H : Hp} {ps : List Int} (R : Rt H ps) {L : List Int} {x : Int} (hx : wordIn H ps x = true) (h : isI x = false) (hA : isA (fol H x) = true) : refW H L x = (2, (idxM L (av (fol H x)) : Int) + 1) ∧ tgt H x = some (av (fol H x)) := by
  refine ⟨?_, by unfold tgt; rw [if_pos hA]⟩
  unfold refW
  rw [if_neg (by rw [fol_notI R hx h]; decide), if_pos hA]
theorem av_num {x : Int} (h : isA x = true) (hx : I64 x) : I64 (av x) := by
  unfold av
  rw [if_pos h]
  unfold I64 at *
  omega
end Go.Proofs.YtacilbilnbmcbaaGreat.hp
namespace Go.Proofs.YtacilbilnbmcbaaGreat.hp
open Go.RowKit rows heads words walks Go.Maps
set_option maxRecDepth 100000
set_option linter.unusedVariables false
set_option linter.unusedSimpArgs false

theorem chHG {S : List Nat} {w w' : World} (h : gr.Ch S w w') : Ch S w w' := ⟨h.os, h.tape, h.output, h.size, h.block⟩
theorem chGH {S : List Nat} {w w' : World} (h : Ch S w w') : gr.Ch S w w' := ⟨h.os, h.tape, h.output, h.size, h.block⟩
theorem map_kept {w w' : World} {k : TypeId} {R : Value → Option (DataW Unit × List MemPlace)} {b n : Nat} {D : DataW Unit} (h : w.ownsMap Tryz.prog k R b n D) (hb : w'.heap[b]? = w.heap[b]?) : w'.ownsMap Tryz.prog k R b n D := by
  obtain ⟨es, clock, e, F, hs, hD⟩ := h
  exact ⟨es, clock, hb.trans e, F, hs, hD⟩
theorem Sh.lt {W0 : World} {base C mb : Nat} {up : Int} {v : Value} {W : World} {es : List Pd} {vm : Value} (h : Sh W0 base C mb up v W es vm) : C < W.heap.size ∧ mb < W.heap.size ∧ ∀ k ∈ blk vm, base ≤ k ∧ k < W.heap.size :=
  ⟨Nat.lt_of_lt_of_le h.nc h.bz, Nat.lt_of_lt_of_le h.nm h.bz, blk_lt h.own⟩
theorem Sh.ch {W0 : World} {base C mb : Nat} {up : Int} {v : Value} {W V : World} {es : List Pd} {vm : Value} {S : List Nat} (h : Sh W0 base C mb up v W es vm) (hc : Ch S W V) (hS : ∀ k ∈ S, k ≠ C ∧ k ≠ mb ∧ k ∉ blk vm ∧ W0.heap.size ≤ k) : Sh W0 base C mb up v V es vm := by
  obtain ⟨l1, l2, l3⟩ := h.lt
  obtain ⟨D, hm, hD⟩ := h.map
  exact ⟨(hc.block _ l1 (fun e => (hS _ e).1 rfl)).trans h.blk', row_ch h.own hc (fun k hk e => (hS _ e).2.2.1 hk), h.sl, ⟨D, map_kept hm (hc.block _ l2 (fun e => (hS _ e).2.1 rfl)), hD⟩, h.low.trans (below_ch hc h.low.size (fun k hk => (hS k hk).2.2.2)), h.bc, h.bm, Nat.le_trans h.bz hc.size, h.nc, h.nm, h.ne, h.num⟩
theorem SR.chR {W0 : World} {base C mb : Nat} {up : Int} {v : Value} {W W' V : World} {es' : List Pd} {vm vm' : Value} {S : List Nat} (h : SR W0 base C mb up v W vm W' es' vm') (hc : Ch S W' V) (hS : ∀ k ∈ S, k ∉ blk vm' ∧ W.heap.size ≤ k) (hb : base ≤ W.heap.size) (h0 : W0.heap.size ≤ W.heap.size) : SR W0 base C mb up v W vm V es' vm' := by
  have n1 := h.sh.nc
  have n2 := h.sh.nm
  refine ⟨h.sh.ch hc (fun k hk => ⟨fun e => ?_, fun e => ?_, (hS k hk).1, Nat.le_trans h0 (hS k hk).2⟩), ⟨hc.os.trans h.ch.os, hc.tape.trans h.ch.tape, hc.output.trans h.ch.output, Nat.le_trans h.ch.size hc.size, fun k hk hn => (hc.block k (Nat.lt_of_lt_of_le hk h.ch.size) (fun e => ?_)).trans (h.ch.block k hk hn)⟩, h.nw⟩
  · have := (hS k hk).2; omega
  · have := (hS k hk).2; omega
  · have := (hS k e).2; omega
theorem SR.chL {W0 : World} {base C mb : Nat} {up : Int} {v : Value} {W W' : World} {es' : List Pd} {vm vm' : Value} (h : SR W0 base C mb up v W vm W' es' vm') : Ch (C :: mb :: blk vm) W W' := ⟨h.ch.os, h.ch.tape, h.ch.output, h.ch.size, fun k hk hn => h.ch.block k hk (by
  rintro (e | e | e)
  · exact hn (by simp [e])
  · exact hn (by simp [e])
  · exact hn (by simp [e]))⟩
/-- The refs of the words so far. -/
structure RfS (W0 : World) (base C mb : Nat) (up : Int) (v : Value) (H : Hp) (ds es0 : List Pd) (W : World) (vm0 : Value) (done : List Int) (w' : World) (rv vm : Value) (es : List Pd) : Prop where
  sr : SR W0 base C mb up v W vm0 w' es vm
  met : es.map Pd.pl = meetL H (es0.map Pd.pl) done
  inD : ∀ d ∈ es, d ∈ es0 ∨ d ∈ ds
  own : gr.OwnR w' W.heap.size rv (done.map (refW H (meetL H (es0.map Pd.pl) done)))
  ap : ∀ k ∈ blk rv, k ∉ blk vm
theorem meetL_snoc (H : Hp) (M l : List Int) (x : Int) : meetL H M (l ++ [x]) = meet (meetL H M l) (tgt H x) := by
  unfold meetL
  rw [List.foldl_append]
  rfl
/-- A word more was shown. -/
theorem RfS.mid {W0 : World} {base C mb : Nat} {up : Int} {v : Value} {H : Hp} {ds es0 : List Pd} {W : World} {vm0 : Value} {done : List Int} {w1 w2 : World} {rv vm vm2 : Value} {es es2 : List Pd} (h : RfS W0 base C mb up v H ds es0 W vm0 done w1 rv vm es) (hb : base ≤ W.heap.size) {x : Int}
    (hs : SR W0 base C mb up v w1 vm w2 es2 vm2) (hm : es2.map Pd.pl = meet (es.map Pd.pl) (tgt H x)) (hd : ∀ d ∈ es2, d ∈ es ∨ d ∈ ds) :
    SR W0 base C mb up v W vm0 w2 es2 vm2 ∧ es2.map Pd.pl = meetL H (es0.map Pd.pl) (done ++ [x]) ∧ (∀ d ∈ es2, d ∈ es0 ∨ d ∈ ds) ∧ gr.OwnR w2 W.heap.size rv (done.map (refW H (meetL H (es0.map Pd.pl) (done ++ [x])))) ∧ (∀ k ∈ blk rv, k ∉ blk vm2) ∧ refW H (meet (es.map Pd.pl) (tgt H x)) x = refW H (meetL H (es0.map Pd.pl) (done ++ [x])) x := by
  have L := gr.blk_lt h.own
  have n1 := hs.sh.nc
  have n2 := hs.sh.nm
  refine ⟨h.sr.trans hs, by rw [hm, h.met, meetL_snoc], fun d hdd => (hd d hdd).elim (h.inD d) .inr, ?_, fun k hk hc => ?_, by rw [h.met, meetL_snoc]⟩
  · have e : done.map (refW H (meetL H (es0.map Pd.pl) (done ++ [x]))) = done.map (refW H (meetL H (es0.map Pd.pl) done)) := by
      refine List.map_congr_left (fun y hy => ?_)
      rw [meetL_snoc]
      obtain ⟨l, el⟩ := meet_sub (M := meetL H (es0.map Pd.pl) done) (t := tgt H x)
      rw [el]
      exact refW_pre (fun a ha => meetL_has hy ha)
    rw [e]
    exact gr.row_ch h.own (chGH hs.chL) (fun k hk hc => by
      have := L k hk
      rcases List.mem_cons.1 hc with e | hc
      · omega
      · rcases List.mem_cons.1 hc with e | hc
        · omega
        · exact h.ap k hk hc)
  · rcases hs.nw k hc with e | e
    · exact h.ap k hk e
    · have := (L k hk).2; omega
theorem RfS.next {W0 : World} {base C mb : Nat} {up : Int} {v : Value} {H : Hp} {ds es0 : List Pd} {W : World} {vm0 : Value} {done : List Int} {x : Int} {w2 w3 : World} {rv rv2 vm2 : Value} {es2 : List Pd} (hb : base ≤ W.heap.size) (h0 : W0.heap.size ≤ W.heap.size)
    (hs : SR W0 base C mb up v W vm0 w2 es2 vm2) (hm : es2.map Pd.pl = meetL H (es0.map Pd.pl) (done ++ [x])) (hd : ∀ d ∈ es2, d ∈ es0 ∨ d ∈ ds) {ys : List gr.Rf} (ho : gr.OwnR w2 W.heap.size rv ys) (ha : ∀ k ∈ blk rv, k ∉ blk vm2)
    {w2' : World} (hB : Below w2.heap.size w2 w2') (hc : gr.Ch (gr.blk rv) w2' w3) (hat : ∀ k ∈ gr.blk rv2, k ∈ gr.blk rv ∨ w2'.heap.size ≤ k) (ho3 : gr.OwnR w3 W.heap.size rv2 ((done ++ [x]).map (refW H (meetL H (es0.map Pd.pl) (done ++ [x]))))) :
    RfS W0 base C mb up v H ds es0 W vm0 (done ++ [x]) w3 rv2 vm2 es2 := by
  have L := gr.blk_lt ho
  have L2 := hs.sh.lt.2.2
  have hsz := hB.size
  refine ⟨(hs.below hB).chR (chHG hc) (fun k hk => ⟨ha k hk, (L k hk).1⟩) hb h0, hm, hd, ho3, fun k hk hk2 => ?_⟩
  rcases hat k hk with e | e
  · exact ha k e hk2
  · have := (L2 k hk2).2; omega
end Go.Proofs.YtacilbilnbmcbaaGreat.hp
