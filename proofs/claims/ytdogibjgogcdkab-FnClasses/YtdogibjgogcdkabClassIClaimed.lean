/-
  Chapter 5 as the program has it: Claimed.
  Made from the template ClassIClaimed.
-/
import Derived.Test.YtdogibjgogcdkabClassS3
import Derived.Test.YtdogibjgogcdkabClassIMap
import Derived.Test.YtdogibjgogcdkabClassIGap
import Derived.Test.YtdogibjgogcdkabClassIInsert
namespace Go.Proofs.Ytdogibjgogcdkab.ents
open Go.RowKit rows heads Go.Maps

theorem nm_some {es : List Ent} {D : DataW Unit} {name : ByteArray} (h : NM es es.length D) (d : clsOk es = true) (hh : Maps.has D (nk name) = true) : ∃ i, findN es name = some i ∧ ∀ z, D.atKey (nk name) z = .lit (.int .i64 (es.getD i entD).1) := by
  obtain ⟨k, hk, ek⟩ := (h.has name).1 hh
  cases e : findN es name with
  | none =>
    have := findN_none_of e (es.getD k entD) (by rw [getD_of hk]; exact List.getElem_mem hk)
    rw [ek, eqN_refl] at this
    cases this
  | some i =>
    obtain ⟨hi, hq⟩ := findN_some_of e
    have hn := (eqN_iff _ _).1 hq
    refine ⟨i, rfl, fun z => ?_⟩
    have := h.at' (dist_of d) i hi z
    rwa [hn] at this
theorem nm_none {es : List Ent} {D : DataW Unit} {name : ByteArray} (h : NM es es.length D) (hh : Maps.has D (nk name) = false) : findN es name = none := by
  cases e : findN es name with
  | none => rfl
  | some i =>
    obtain ⟨hi, hq⟩ := findN_some_of e
    have := (h.has name).2 ⟨i, hi, (eqN_iff _ _).1 hq⟩
    rw [hh] at this
    cases this

set_option maxRecDepth 100000 in
set_option maxHeartbeats 4000000 in
theorem implClaimed (w : World) (v : Value) (es : List Ent) (name : ByteArray) (h : EntsAt w v es) (hb : Borne es) (hl : es.length ≤ 1048576) (_ : namesLen es ≤ 1048576) (hname : name.size ≤ 1048576) :
    Calls Try.prog 19 #[v, .string name] w fun e w' => ∃ v', e = .returned (.tuple #[v', .int .i64 (clmIx es name)]) ∧ OwnE w' w.heap.size v' (clm es name) ∧ Below w.heap.size w w' := by
  have N := namesOf_any h hb
  cases d : clsOk es
  · rw [(clm_no d).1, (clm_no d).2]
    rw [d] at N
    go_enter Try.func19, Try.ntmps19
    go_wp2_with fail
    refine N.mono ?_
    rintro e w1 ⟨b, D, rfl, -, b1⟩
    have HB : Hid _ := b1
    clear b1 N
    go_wp2
    go_ret2
    exact ⟨_, rfl, ownE_nil _ _, HB⟩
  rw [d] at N
  have h40 := (clsOk_at d).1
  obtain ⟨RX, hRX⟩ : ∃ RX, clmIx es name = RX := ⟨_, rfl⟩
  obtain ⟨RL, hRL⟩ : ∃ RL, clm es name = RL := ⟨_, rfl⟩
  rw [hRX, hRL]
  have HRX : Hid _ := hRX
  have HRL : Hid _ := hRL
  have HD : Hid _ := d
  clear hRX hRL d
  go_enter Try.func19, Try.ntmps19
  go_wp2_with fail
  refine N.mono ?_
  rintro e w1 ⟨b, D, rfl, hN, b1⟩
  obtain ⟨hown, hnm⟩ := hN (by trivial)
  have CP := copiedE_any (entsAt_below h b1) hl
  have HB1 : Hid _ := b1
  have HNM : Hid _ := hnm
  have HO : Hid _ := hown
  have s1 := b1.size
  clear b1 N hN hown hnm h
  go_upto_region 5 with (go_at_call 85; refine CP.mono ?_; rintro e w2 ⟨rfl, F2, b2⟩; clear CP)
  have s2 := lt_of_block F2
  have HO2 : Hid _ := World.ownsMap.kept HO.out (grownBel b2 none) (by simp)
  have HB2 : Hid _ := HB1.out.trans (b2.mono s1)
  have HF2 : Hid _ := F2
  have HK : Hid _ := key_nk (s := name) (by omega)
  generalize hG : w1.heap.size = G at *
  clear hG F2 b2 HO HB1
  cases hh : Maps.has D (nk name)
  · have FN := nm_none HNM.out hh
    clear HNM
    have NOK := nameOk_any name (by omega)
    have RM : roomN es name = (inR 1 20 (name.size : Int) && !decide (es.length = 40)) := rfl
    cases dB : inR 1 20 (name.size : Int)
    · have r : roomN es name = false := by rw [RM, dB]; rfl
      have c := clm_full HD.out FN r
      rw [HRX.out, HRL.out] at c
      have HE : Hid _ := c
      rw [dB] at NOK
      clear c HRX HRL RM FN r HD
      go_wp2_with (first
        | (at_lookup; refine wpList_lookup_own_ok_int _ rfl _ _ 98 rfl 9 2 .i64 lawS Try.underlying98 Try.underlying2 (zeroI _) b 40 D rfl HO2.out _ _ rfl HK.out ?_; intro c hat hwc; rw [hh])
        | (go_at_call 86; refine (NOK _).mono ?_; rintro e w3 ⟨rfl, hw3⟩; rw [hw3]; clear hw3 w3))
      go_ret2
      exact ⟨_, by rw [HE.out.1]; rfl, by rw [HE.out.2]; exact fullE_own HF2.out s1 (by unfold maxLen; omega), HB2⟩
    · rw [dB] at NOK
      by_cases h4 : es.length = 40
      · have r : roomN es name = false := by rw [RM, dB, h4]; rfl
        have c := clm_full HD.out FN r
        rw [HRX.out, HRL.out] at c
        have HE : Hid _ := c
        have h4' : ((es.length : Int) == 40) = true := by simp; omega
        clear c HRX HRL RM FN r HD h4
        go_wp2_with (first
          | (at_lookup; refine wpList_lookup_own_ok_int _ rfl _ _ 98 rfl 9 2 .i64 lawS Try.underlying98 Try.underlying2 (zeroI _) b 40 D rfl HO2.out _ _ rfl HK.out ?_; intro c hat hwc; rw [hh])
          | (go_at_call 86; refine (NOK _).mono ?_; rintro e w3 ⟨rfl, hw3⟩; rw [hw3]; clear hw3 w3))
        go_ret2
        exact ⟨_, by rw [HE.out.1]; rfl, by rw [HE.out.2]; exact fullE_own HF2.out s1 (by unfold maxLen; omega), HB2⟩
      · have r : roomN es name = true := by rw [RM, dB, decide_eq_false h4]; rfl
        have c := clm_new HD.out FN r
        rw [HRX.out, HRL.out] at c
        have HE : Hid _ := c
        have h4' : ((es.length : Int) == 40) = false := by simp; omega
        have GP := firstGap_any (ownE_ents (fullE_own (base := 0) HF2.out (Nat.zero_le _) (by unfold maxLen; omega))) hl
        have gl : freeK es 0 ≤ es.length := by have := (freeK_le es 0).2; omega
        generalize freeK es 0 = k at *
        clear c HRX HRL RM FN r HD
        go_wp2_with (first
          | (at_lookup; refine wpList_lookup_own_ok_int _ rfl _ _ 98 rfl 9 2 .i64 lawS Try.underlying98 Try.underlying2 (zeroI _) b 40 D rfl HO2.out _ _ rfl HK.out ?_; intro c hat hwc; rw [hh])
          | (go_at_call 86; refine (NOK _).mono ?_; rintro e w3 ⟨rfl, hw3⟩; rw [hw3]; clear hw3 w3)
          | (go_at_call 87; refine GP.mono ?_; rintro e w3 ⟨rfl, b3⟩; clear GP
             have B3 := HB2.out.trans (b3.mono HB2.out.size)
             have INS := insert_any (B3.alloc B3.size (eb ((k : Int), name))) (fullE_below (fullE_below HF2.out b3) ((Below.refl _ w3).alloc (Nat.le_refl _) (eb ((k : Int), name)))) s1 (ent_one w3 ((k : Int), name)) gl (by omega)
             have HI : Hid _ := INS
             clear INS B3 b3)
          | (go_at_call 88; refine Calls.mono HI.out ?_; rintro e w4 ⟨v', rfl, hO4, hB4⟩; clear HI))
        go_ret2
        exact ⟨_, by rw [HE.out.1]; rfl, by rw [HE.out.2]; exact hO4, hB4⟩
  · obtain ⟨i, FN, at'⟩ := nm_some HNM.out HD.out hh
    have c := clm_has HD.out FN
    rw [HRX.out, HRL.out] at c
    have HE : Hid _ := c
    have HA : Hid _ := at'
    clear HNM c HRX HRL HD FN at'
    go_wp2_with (at_lookup; refine wpList_lookup_own_ok_int _ rfl _ _ 98 rfl 9 2 .i64 lawS Try.underlying98 Try.underlying2 (zeroI _) b 40 D rfl HO2.out _ _ rfl HK.out ?_; intro c hat hwc; rw [hh]; have HC : Hid (c = (es.getD i entD).1) := by { rw [HA.out] at hat; injection hat with hat; injection hat with _ hat; exact hat.symm }; clear hat)
    go_ret2
    exact ⟨_, by rw [HE.out.1, HC.out]; rfl, by rw [HE.out.2]; exact fullE_own HF2.out s1 (by unfold maxLen; omega), HB2⟩
end Go.Proofs.Ytdogibjgogcdkab.ents
