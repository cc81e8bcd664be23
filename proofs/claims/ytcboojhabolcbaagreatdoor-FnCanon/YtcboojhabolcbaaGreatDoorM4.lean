/-
  'append([]Ref{}, list...)': a list of its own, and nothing that there was is changed. Digits laid one ahead of the other. The texts that the laws mark with. Chapter 6: a number as a text, by the specification. A drawn region whose last operation comes behind all others, though not at once; and 'copy' as that operation. A drawn region that only grows the world at first, by one fact a slot, and ends in a row of operations, each behind the one ahead.
-/
import Derived.Test.YtcboojhabolcbaaGreatDoorM1
import Derived.Deep.Upon
import Derived.Lib.ItoaNum
import Derived.Test.YtcboojhabolcbaaGreatDoorM3
import Derived.Laws.BytesArg
import Derived.Laws.Concat
import Derived.Maps.AppendAt
import Derived.Test.YtcboojhabolcbaaGreatDoorM2
import Derived.Laws.CopyOwn
namespace Go.Proofs.YtcboojhabolcbaaGreatDoor.gr
open Go.RowKit rows
set_option maxRecDepth 100000

theorem refs_news {w : World} {ad : Addr} {n cap : Nat} {es : List Rf} (h : RefsAt w (.slice (some ad) n cap) es) : ∀ j u, (cellsR es)[j]? = some u → w.cell? (ad.add j) = some u := by
  intro j u hj
  obtain ⟨a', cap', e, _, _, _, hc⟩ := h
  injection e with e1 e2 e3
  subst e1
  have hlt : j < es.length * 2 := by
    have := (List.getElem?_eq_some_iff.1 hj).1
    rw [cellsR_length] at this
    exact this
  obtain ⟨b, off, e1, _, hcc⟩ := hc (by omega)
  injection e1 with e1
  subst e1
  have hc := hcc (j / 2) (by omega)
  have ca := cellsR_at es (j / 2) (by omega)
  have hadd : (⟨b, off, none⟩ : Addr).add j = ⟨b, off + j, none⟩ := by unfold Addr.add; split <;> simp_all
  rw [hadd]
  rcases Nat.mod_two_eq_zero_or_one j with hm | hm
  · have ej : j = j / 2 * 2 := by omega
    rw [← ej] at hc ca
    rw [ca.1] at hj
    rw [← hj]
    exact hc.1
  · have ej : j = j / 2 * 2 + 1 := by omega
    have e2 : off + j = off + j / 2 * 2 + 1 := by omega
    rw [← ej] at ca
    rw [ca.2] at hj
    rw [← hj, e2]
    exact hc.2
theorem refs_len {w : World} {a : Option Addr} {n cap : Nat} {es : List Rf} (h : RefsAt w (.slice a n cap) es) : es.length = n ∧ (a = none → n = 0) := by
  obtain ⟨a', cap', e, h1, _, h2, _⟩ := h
  injection e with e1 e2 e3
  subst e1 e2 e3
  exact ⟨rfl, fun ha => by have := h2 ha; omega⟩
theorem src_refs {w : World} {a : Option Addr} {n cap : Nat} {es : List Rf} (h : RefsAt w (.slice a n cap) es) : Src Tryz.prog 2 25 (.slice a n cap) n (cellsR es) w := by
  obtain ⟨hl, hz⟩ := refs_len h
  cases a with
  | none =>
    have hn := hz rfl
    have e : es = [] := List.eq_nil_of_length_eq_zero (by omega)
    subst e hn
    exact ⟨.inl ⟨_, Tryz.underlying25⟩, fun w' => by simp [Builtin.lenOf], by simp [Builtin.firstCells, cellsR], by simp [Builtin.firstCells, cellsR], by simp [cellsR], fun u hu => by simp [cellsR] at hu⟩
  | some ad =>
    have hc : (cellsR es).length = n * 2 := by rw [cellsR_length, hl]
    exact ⟨.inl ⟨_, Tryz.underlying25⟩, fun w' => by simp [Builtin.lenOf], run_firstCells_some w 2 n ad n cap (cellsR es) hc (refs_news h), run_firstCells_some w.drew 2 n ad n cap (cellsR es) hc (refs_news (w := w.drew) h), hc, cellsR_one es⟩

/-- Onto an empty list of no room. -/
theorem run_app0 {w : World} {g : Nat} {a : Option Addr} {n cap : Nat} {es : List Rf} (h : RefsAt w (.slice a n cap) es) (hl : n ≤ 1048576) (hg : w.heap[g]? = some (.cells #[] 31 (0, 0))) (ty : TypeId) :
    ∃ (q c : Nat) (w' : World), (Builtin.append_ #[25, 25] ty #[.slice (some ⟨g, 0, none⟩) 0 0, .slice a n cap]).run Tryz.prog w = .ok (.slice (some ⟨q, 0, none⟩) n c) w' ∧ (q = g ∨ w.heap.size ≤ q) ∧ (∀ base, base ≤ q → OwnR w' base (.slice (some ⟨q, 0, none⟩) n c) es) ∧ Below w.heap.size w w' := by
  obtain ⟨i0, hi, hz0, hz1, hz2⟩ := info_parts infoR
  have S := src_refs h
  obtain ⟨hlen, _⟩ := refs_len h
  have ho : ∀ {w' : World} {q c base : Nat} (cur : Array Value), base ≤ q → w'.heap[q]? = some (.cells cur 31 (0, 0)) → n ≤ c → c ≤ maxLen → cur.size = c * 2 → cur.toList.take (n * 2) = cellsR es → OwnR w' base (.slice (some ⟨q, 0, none⟩) n c) es := by
    intro w' q c base cur h1 h2 h3 h4 h5 h6
    unfold OwnR
    rw [hlen]
    exact ⟨by rw [cellsR_length, hlen], .inr ⟨q, c, cur, rfl, h1, h2, h3, h4, h5, h6⟩⟩
  rcases Nat.eq_zero_or_pos n with h0 | hp
  · subst h0
    have e : es = [] := List.eq_nil_of_length_eq_zero hlen
    subst e
    have hr := run_append_nothing w 25 25 ty 31 i0 Tryz.underlying25 hi (some ⟨g, 0, none⟩) 0 0 (Nat.le_refl _) (.slice a 0 cap) (by rw [hz1]; exact S)
    exact ⟨g, 0, w, hr, .inl rfl, fun base hb => ho #[] hb hg (Nat.le_refl _) (by decide) rfl rfl, Below.refl _ _⟩
  · have hold : (Builtin.firstCells i0.size 0 (.slice (some ⟨g, 0, none⟩) 0 0)).run Tryz.prog w.drew = .ok ([] : List Value).toArray w.drew := run_firstCells_some w.drew i0.size 0 ⟨g, 0, none⟩ 0 0 [] (by simp) (fun j v hj => by simp at hj)
    have hr := run_append_grow_src w 25 25 ty 31 i0 (.agg #[.int .i64 0, .int .i64 0]) Tryz.underlying25 hi hz0 (some ⟨g, 0, none⟩) 0 0 [] hold (.slice a n cap) n (cellsR es) (by rw [hz1]; exact S) (by omega) (by omega) (by rw [hz2]; exact growslice_fits (by omega) (by omega))
    have hge := grownCap_ge w (0 + n) 0 31
    have hcm : grownCap w (0 + n) 0 31 ≤ maxLen := grownCap_le_maxLen w (0 + n) 0 31 (by unfold maxLen; omega)
    rw [Nat.zero_add] at hr hge hcm
    refine ⟨w.heap.size, _, _, hr, .inr (Nat.le_refl _), fun base hb => ho _ hb (heap_alloc_new w.drew _) hge hcm ?_ ?_, ⟨rfl, rfl, rfl, by simp, fun j hj => Below.heap_alloc w.drew _ j hj⟩⟩
    · simp [Builtin.zeroCells, Value.cells, cellsR_length, hlen]
      omega
    · simp only [List.nil_append, Array.toList_append]
      exact List.take_left' (by rw [cellsR_length, hlen])
end Go.Proofs.YtcboojhabolcbaaGreatDoor.gr
namespace Go.Proofs.YtcboojhabolcbaaGreatDoor.gr
open Go.RowKit rows
set_option maxRecDepth 100000
set_option linter.unusedVariables false

/-- Digits laid one ahead of the other: where a number's text stands when n is left. -/
def DigAt (n0 n : Int) (s : List UInt8) : Prop := s = [] ∧ n = n0 ∨ s ≠ [] ∧ (n = 0 ∧ s = Lib.decDigits n0.natAbs ∨ n ≠ 0 ∧ Lib.decDigits n.natAbs ++ s = Lib.decDigits n0.natAbs)
theorem digAt_next {n0 n : Int} {s : List UInt8} (h : DigAt n0 n s) (hg : s = [] ∨ n ≠ 0) : DigAt n0 (n.tdiv 10) (UInt8.ofNat (48 + n.natAbs % 10) :: s) := by
  have hd : (n.tdiv 10).natAbs = n.natAbs / 10 := Int.natAbs_tdiv n 10
  have hD : Lib.decDigits n.natAbs = if n.natAbs < 10 then [UInt8.ofNat (48 + n.natAbs)] else Lib.decDigits (n.natAbs / 10) ++ [UInt8.ofNat (48 + n.natAbs % 10)] := by
    rw [Lib.decDigits]
    by_cases c : n.natAbs < 10
    · rw [dif_pos c, if_pos c]
    · rw [dif_neg c, if_neg c]
  have hT : Lib.decDigits n.natAbs ++ s = Lib.decDigits n0.natAbs := by
    rcases h with ⟨rfl, rfl⟩ | ⟨h1, h2 | h2⟩
    · exact List.append_nil _
    · rcases hg with hg | hg
      · exact absurd hg h1
      · exact absurd h2.1 hg
    · exact h2.2
  refine .inr ⟨by simp, ?_⟩
  by_cases c : n.natAbs < 10
  · refine .inl ⟨by omega, ?_⟩
    rw [hD, if_pos c] at hT
    rw [← hT, Nat.mod_eq_of_lt c]
    rfl
  · refine .inr ⟨by omega, ?_⟩
    rw [hD, if_neg c] at hT
    rw [hd, ← hT, List.append_assoc]
    rfl
theorem digAt_end {n0 n : Int} {s : List UInt8} (h : DigAt n0 n s) (hg : ¬ (s = [] ∨ n ≠ 0)) : s = Lib.decDigits n0.natAbs := by
  rcases h with ⟨h1, _⟩ | ⟨_, h2 | h2⟩
  · exact absurd (.inl h1) hg
  · exact h2.2
  · exact absurd (.inr h2.1) hg
theorem itoa_abs (n : Int) : Lib.itoa n = if n < 0 then 45 :: Lib.decDigits n.natAbs else Lib.decDigits n.natAbs := by
  unfold Lib.itoa
  by_cases h : n < 0
  · rw [if_pos h, if_pos h]
  · rw [if_neg h, if_neg h]
    congr 1
    omega
end Go.Proofs.YtcboojhabolcbaaGreatDoor.gr
namespace Go.Proofs.YtcboojhabolcbaaGreatDoor.ents
open Go.RowKit rows
set_option maxRecDepth 100000

/-- A digit as a text. -/
def dgt (k : Nat) : ByteArray := strOfNums [48 + (k : Int) % 10]
theorem dgt_size (k : Nat) : (dgt k).size = 1 := by simp [dgt, strOfNums, ByteArray.size]
def mtd : Nat → Nat → ByteArray → ByteArray
  | 0, _, out => out
  | n + 1, k, out => if k = 0 then out else mtd n (k / 10) (dgt k ++ out)
theorem mtd_step {n k : Nat} (h : k ≠ 0) (out : ByteArray) : mtd (n + 1) k out = mtd n (k / 10) (dgt k ++ out) := by simp [mtd, h]
theorem mtd_zero (n : Nat) (out : ByteArray) : mtd n 0 out = out := by cases n <;> simp [mtd]
/-- What is marked with at a number. -/
def mt (k : Nat) : ByteArray := ⟨#[109]⟩ ++ mtd k k ByteArray.empty

/-- 'string([]byte{x})'. -/
theorem conv_one (W : World) (x : Int) : (convert 22 9 (.slice (some ⟨W.heap.size, 0, none⟩) 1 1)).run Tryz.prog (W.alloc (.cells #[.int .u8 x] 5)) = .ok (.string (strOfNums [x])) (W.alloc (.cells #[.int .u8 x] 5)) := by
  refine run_convert_bytes_arg (P := Tryz.prog) _ 22 5 Tryz.underlying22 Tryz.underlying5 W.heap.size 0 1 1 [x] rfl ?_ 9 Tryz.underlying9
  intro i hi
  obtain rfl : i = 0 := by omega
  have := cell_one_new W (.int .u8 x) 5 0 (.int .u8 x) rfl
  exact this

end Go.Proofs.YtcboojhabolcbaaGreatDoor.ents
namespace Go.Proofs.YtcboojhabolcbaaGreatDoor.gr
open Go.RowKit rows ents
set_option maxRecDepth 100000
set_option linter.unusedVariables false
set_option linter.unusedSimpArgs false

/-- A text's bytes. -/
abbrev bs (s : List UInt8) : ByteArray := ⟨s.toArray⟩
theorem toList_loop (s : ByteArray) : ∀ n i r, s.size - i = n → r ≠ [] → ByteArray.toList.loop s i r ≠ []
  | 0, i, r, hn, hr => by
    unfold ByteArray.toList.loop
    rw [if_neg (by omega)]
    simpa using hr
  | n + 1, i, r, hn, hr => by
    unfold ByteArray.toList.loop
    rw [if_pos (by omega)]
    exact toList_loop s n (i + 1) _ (by omega) (by simp)
theorem toList_more {s : ByteArray} (h : 0 < s.size) : s.toList.isEmpty = false := by
  rw [List.isEmpty_eq_false_iff]
  unfold ByteArray.toList
  unfold ByteArray.toList.loop
  rw [if_pos h]
  exact toList_loop s _ _ _ rfl (by simp)
def strLen : Value → Nat
  | .string s => s.size
  | _ => 0
def numAbs : Value → Nat
  | .int _ n => n.natAbs
  | _ => 0
theorem strOf_digit (d : Nat) : strOfNums [48 + (d : Int)] = bs [UInt8.ofNat (48 + d)] := by
  simp only [strOfNums, List.map_cons, List.map_nil]
  rw [show (48 + (d : Int)).toNat = 48 + d by omega]
theorem bs_append (x y : List UInt8) : bs x ++ bs y = bs (x ++ y) := ByteArray.mk_append_mk x y
theorem bs_size (x : List UInt8) : (bs x).size = x.length := by simp [bs, ByteArray.size]
theorem pow_small {l a b : Nat} (ha : 0 < a) (h : a * 10 ^ l ≤ b) (hb : b ≤ 9223372036854775808) : l ≤ 18 := by
  rcases Nat.lt_or_ge 18 l with hl | hl
  · have h1 : 10 ^ 19 ≤ 10 ^ l := Nat.pow_le_pow_right (by decide) hl
    have h2 : 1 * 10 ^ l ≤ a * 10 ^ l := Nat.mul_le_mul_right _ ha
    have h3 : (10 : Nat) ^ 19 = 10000000000000000000 := by decide
    omega
  · exact hl
set_option maxHeartbeats 4000000 in
theorem l1IntT_any (n0 : Int) (hn : I64 n0) (w : World) :
    Calls Tryz.prog 69 #[.int .i64 n0] w fun e w' => e = .returned (.string (bs (Lib.itoa n0))) ∧ Below w.heap.size w w' := by
  have HN : Hid _ := hn
  unfold I64 at hn
  go_enter Tryz.func69, Tryz.ntmps69
  go_wp2_with fail
  go_loopw [0, 3] (fun p q wr => ∃ (n : Int) (s : List UInt8) (sb : ByteArray), p = .int .i64 n ∧ q = .string sb ∧ sb = bs s ∧ DigAt n0 n s ∧ n.natAbs * 10 ^ s.length ≤ n0.natAbs ∧ s.length ≤ 19 ∧ (n.natAbs ≤ n0.natAbs) ∧ Below w.heap.size w wr) (fun p q _ => 2 * numAbs p + (1 - strLen q))
  case atStart => exact ⟨n0, [], _, rfl, rfl, rfl, .inl ⟨rfl, rfl⟩, by simp, by simp, Nat.le_refl _, Below.refl _ _⟩
  case round =>
    obtain ⟨n, s, sb, rfl, rfl, hsb, hD, hp, hl, hab, hB⟩ := hrel
    have HB : Hid _ := hB
    have HD : Hid _ := hD
    have HSB : Hid _ := hsb
    have hz : sb.size = s.length := by rw [hsb]; exact bs_size s
    clear hB hD hsb
    by_cases hg : s = [] ∨ n ≠ 0
    · have hl18 : s.length ≤ 18 := by
        rcases hg with hg | hg
        · rw [hg]; exact Nat.zero_le _
        · exact pow_small (by omega) hp (by omega)
      have hdv : (n.tdiv 10).natAbs = n.natAbs / 10 := Int.natAbs_tdiv n 10
      have hmd : (n.tmod 10).natAbs = n.natAbs % 10 := Int.natAbs_tmod n 10
      obtain ⟨d, hd⟩ : ∃ d, n.natAbs % 10 = d := ⟨_, rfl⟩
      have hd9 : d ≤ 9 := by omega
      have CV := conv_one wr (48 + (d : Int))
      rw [strOf_digit] at CV
      have hds : (bs [UInt8.ofNat (48 + d)]).size = 1 := bs_size _
      have hap : bs [UInt8.ofNat (48 + d)] ++ sb = bs (UInt8.ofNat (48 + d) :: s) := by rw [HSB.out]; exact bs_append _ _
      have HAP : Hid _ := hap
      have HNX : Hid (DigAt n0 (n.tdiv 10) (UInt8.ofNat (48 + d) :: s)) := by rw [← hd]; exact digAt_next HD.out hg
      have HP : Hid ((n.tdiv 10).natAbs * 10 ^ (s.length + 1) ≤ n0.natAbs) := by
        show _ ≤ _
        rw [hdv, Nat.pow_succ]
        have h1 : n.natAbs / 10 * 10 ≤ n.natAbs := Nat.div_mul_le_self _ _
        calc n.natAbs / 10 * (10 ^ s.length * 10) = n.natAbs / 10 * 10 * 10 ^ s.length := by rw [Nat.mul_comm (10 ^ s.length) 10, Nat.mul_assoc]
          _ ≤ n.natAbs * 10 ^ s.length := Nat.mul_le_mul_right _ h1
          _ ≤ _ := hp
      have HB2 : Hid _ := HB.out.alloc HB.out.size (.cells #[.int .u8 (48 + (d : Int))] 5)
      have hss : ¬ (bs [UInt8.ofNat (48 + d)]).size + sb.size > 9223372036854775807 := by omega
      have hsz : (bs [UInt8.ofNat (48 + d)] ++ sb).size = 1 + sb.size := by rw [ByteArray.size_append, hds]
      generalize bs [UInt8.ofNat (48 + d)] = D at *
      by_cases hneg : n.tmod 10 < 0
      · have hm : n.tmod 10 = -(d : Int) := by omega
        rw [hm] at hneg
        clear hap hp hmd hd
        rcases hg with hg | hg
        · subst hg
          obtain rfl : sb = ⟨#[]⟩ := HSB.out
          have hz0 : (⟨#[]⟩ : ByteArray).size = 0 := rfl
          go_wp2
          exact ⟨⟨n.tdiv 10, _, _, rfl, rfl, HAP.out, HNX.out, HP.out, by simp only [List.length_cons]; omega, by omega, HB2⟩, by simp only [strLen, numAbs]; omega⟩
        · by_cases hs0 : s = []
          · subst hs0
            obtain rfl : sb = ⟨#[]⟩ := HSB.out
            have hz0 : (⟨#[]⟩ : ByteArray).size = 0 := rfl
            go_wp2
            exact ⟨⟨n.tdiv 10, _, _, rfl, rfl, HAP.out, HNX.out, HP.out, by simp only [List.length_cons]; omega, by omega, HB2⟩, by simp only [strLen, numAbs]; omega⟩
          · have hpos : 0 < s.length := List.length_pos_iff.2 hs0
            have hne := toList_more (s := sb) (by omega)
            go_wp2
            exact ⟨⟨n.tdiv 10, _, _, rfl, rfl, HAP.out, HNX.out, HP.out, by simp only [List.length_cons]; omega, by omega, HB2⟩, by simp only [strLen, numAbs]; omega⟩
      · have hm : n.tmod 10 = (d : Int) := by omega
        rw [hm] at hneg
        clear hap hp hmd hd
        rcases hg with hg | hg
        · subst hg
          obtain rfl : sb = ⟨#[]⟩ := HSB.out
          have hz0 : (⟨#[]⟩ : ByteArray).size = 0 := rfl
          go_wp2
          exact ⟨⟨n.tdiv 10, _, _, rfl, rfl, HAP.out, HNX.out, HP.out, by simp only [List.length_cons]; omega, by omega, HB2⟩, by simp only [strLen, numAbs]; omega⟩
        · by_cases hs0 : s = []
          · subst hs0
            obtain rfl : sb = ⟨#[]⟩ := HSB.out
            have hz0 : (⟨#[]⟩ : ByteArray).size = 0 := rfl
            go_wp2
            exact ⟨⟨n.tdiv 10, _, _, rfl, rfl, HAP.out, HNX.out, HP.out, by simp only [List.length_cons]; omega, by omega, HB2⟩, by simp only [strLen, numAbs]; omega⟩
          · have hpos : 0 < s.length := List.length_pos_iff.2 hs0
            have hne := toList_more (s := sb) (by omega)
            go_wp2
            exact ⟨⟨n.tdiv 10, _, _, rfl, rfl, HAP.out, HNX.out, HP.out, by simp only [List.length_cons]; omega, by omega, HB2⟩, by simp only [strLen, numAbs]; omega⟩
    · have hs0 : s ≠ [] := fun e => hg (.inl e)
      have hn0 : n = 0 := Decidable.byContradiction fun e => hg (.inr e)
      have hpos : 0 < s.length := List.length_pos_iff.2 hs0
      have hne := toList_more (s := sb) (by omega)
      have hE := digAt_end HD.out hg
      have hI := itoa_abs n0
      rw [← hE] at hI
      have HI : Hid _ := hI
      have hss : ¬ (⟨#[45]⟩ : ByteArray).size + sb.size > 9223372036854775807 := by
        have : (⟨#[45]⟩ : ByteArray).size = 1 := rfl
        omega
      subst hn0
      clear hE hI hp
      by_cases hneg : n0 < 0
      · have hR : bs (Lib.itoa n0) = (⟨#[45]⟩ : ByteArray) ++ sb := by rw [HI.out, if_pos hneg, HSB.out]; exact (bs_append [45] s).symm
        have HR : Hid _ := hR
        clear hR
        go_wp2
        go_ret
        exact ⟨by rw [HR.out]; rfl, HB⟩
      · have hR : bs (Lib.itoa n0) = sb := by rw [HI.out, if_neg hneg, HSB.out]
        have HR : Hid _ := hR
        clear hR
        go_wp2
        go_ret
        exact ⟨by rw [HR.out]; rfl, HB⟩
end Go.Proofs.YtcboojhabolcbaaGreatDoor.gr
namespace Go.Proofs.YtcboojhabolcbaaGreatDoor.region
open Go Go.RowKit

theorem wp_region_last {P : Program} {id : Nat} {ops : Array Oper} {Q : Exit → Act → World → Prop} {a0 : Act} {w : World} (hm : P.follows .mixedOrders = true) (D : Nat → Bool)
    (hg : ∀ o ∈ ops, o.guard = none) (hacyc : ∀ (k : Nat) (o : Oper), ops[k]? = some o → ∀ e ∈ o.after, e.on < k) (n : Nat) (hn : ops.size = n + 1) (dst : Nat → Nat) (hinj : ∀ k, k < n → ∀ j, j < n → dst j = dst k → j = k)
    (F : Nat → Value → World → Prop) (hst : ∀ k t W W', Below W.heap.size W W' → F k t W → F k t W')
    (hall : ∀ l : Nat → Bool, (∀ k o, ops[k]? = some o → (k < n → l k = true) → ∀ e ∈ o.after, Region.binds .any e = true → l e.on = true) → ∀ j, j < n → l j = true)
    (step : ∀ k o u W, k < n → ops[k]? = some o → Below w.heap.size w W → (∀ j, j < n → (∃ e ∈ o.after, e.on = j ∧ Region.binds .any e = true) → F j (u (dst j)) W) → o.wp P (ovr D a0 u) W (fun a' W' => ∃ v, a' = ovr D a0 (upd u (dst k) v) ∧ Below W.heap.size W W' ∧ F k v W') Q)
    (last : ∀ o u W, ops[n]? = some o → Below w.heap.size w W → (∀ j, j < n → F j (u (dst j)) W) → o.wp P (ovr D a0 u) W (fun a' W' => ∃ u', a' = ovr D a0 u' ∧ Q .normal (ovr D a0 u') W') Q) :
    (Code.region id ops true).wp P Q a0 w := by
  refine wp_region_facts hm D hg hacyc (fun l u W => (l.getD n false = false ∧ Below w.heap.size w W ∧ (∀ k o, k < n → l.getD k false = true → ops[k]? = some o → ∀ e ∈ o.after, Region.binds .any e = true → l.getD e.on false = true) ∧ ∀ k, k < n → l.getD k false = true → F k (u (dst k)) W) ∨ ((∀ k, k < n + 1 → l.getD k false = true) ∧ Q .normal (ovr D a0 u) W)) (.inl ⟨?_, (Below.refl _ w).drew, fun k o hk h => ?_, fun k hk h => ?_⟩) ?_ ?_
  · simp [Array.getD, hn]
  · simp [Array.getD, hn, show k < n + 1 by omega] at h
  · simp [Array.getD, hn, show k < n + 1 by omega] at h
  · rintro l u W (⟨h1, _⟩ | ⟨_, h⟩) hA
    · rw [hA n (by omega)] at h1
      cases h1
    · exact h
  · rintro l u W k o (⟨h1, hB, hC, hF⟩ | ⟨hA, _⟩) hl hlk ho hd
    case inr =>
      have hk : k < n + 1 := by rw [← hn]; exact (Array.getElem?_eq_some_iff.1 ho).1
      rw [hA k hk] at hlk
      cases hlk
    have hk : k < n + 1 := by rw [← hn]; exact (Array.getElem?_eq_some_iff.1 ho).1
    by_cases e : k = n
    · subst e
      have hA : ∀ j, j < k → l.getD j false = true := hall (fun j => l.getD j false) (fun j o' ho' hj e he hb => by
        have hj1 : j < k + 1 := by rw [← hn]; exact (Array.getElem?_eq_some_iff.1 ho').1
        by_cases e2 : j = k
        · subst e2
          rw [ho] at ho'
          injection ho' with ho'
          subst ho'
          exact hd e he hb
        · exact hC j o' (by omega) (hj (by omega)) ho' e he hb)
      refine Oper.wp_mono ?_ (last o u W ho hB (fun j hj => hF j hj (hA j hj)))
      rintro a' W' ⟨u', rfl, h⟩
      refine ⟨u', rfl, .inr ⟨fun j hj => ?_, h⟩⟩
      by_cases e : j = k
      · subst e; exact listed_ne (by omega)
      · rw [getD_other l (Ne.symm e)]; exact hA j (by omega)
    · have hk' : k < n := by omega
      refine Oper.wp_mono ?_ (step k o u W hk' ho hB (fun j hj ⟨e, he, e1, hb⟩ => hF j hj (by rw [← e1]; exact hd e he hb)))
      rintro a' W' ⟨v, rfl, hb, hv⟩
      refine ⟨_, rfl, .inl ⟨?_, hB.trans (hb.mono hB.size), ?_, ?_⟩⟩
      · rw [getD_other l e]; exact h1
      · intro j o' hj hlj ho' e' he' hb'
        by_cases e2 : k = e'.on
        · rw [← e2]; exact listed_ne (by omega)
        · rw [getD_other l e2]
          by_cases e3 : k = j
          · subst e3
            rw [ho] at ho'
            injection ho' with ho'
            subst ho'
            exact hd e' he' hb'
          · rw [getD_other l e3] at hlj
            exact hC j o' hj hlj ho' e' he' hb'
      · exact facts_put (dst := dst) (hinj k hk') hF (fun j _ _ _ t => hst j t W W' hb) hv
/-- 'copy', the last operation. -/
theorem plainCopy {P : Program} {o : Oper} {D : Nat → Bool} {a0 : Act} {u : Nat → Value} {W : World} {Q : Exit → Act → World → Prop} {dk : Nat} (hgd : o.guard = none) (hd' : o.dst = some dk) (hD : D dk = true) (d s : Operand) (dT sT : TypeId)
    (ho : o.op = .call { callee := .builtin .copy, args := #[d, s], argTypes := #[dT, sT] }) (elem : TypeId) (hu : P.underlying dT = some (.slice elem)) (hsz : (P.info? elem).map (·.size) = some 1)
    (dp sp : Option Addr) (dLen dCap sLen sCap : Nat) (hd : (ovr D a0 u).eval d = .slice dp dLen dCap) (hs : (ovr D a0 u).eval s = .slice sp sLen sCap)
    (g off : Nat) (cur : List Value) (t : TypeId) (hg : W.heap[g]? = some (.cells cur.toArray t (0, 0))) (cs : List Value) (hn : cs.length = Nat.min sLen dLen)
    (hpos : 0 < cs.length → dp = some ⟨g, off, none⟩ ∧ ∃ ad, sp = some ad ∧ ∀ j v, cs[j]? = some v → W.cell? (ad.add j) = some v)
    (hfit : off + cs.length ≤ cur.length) (h1 : ∀ v ∈ cs, v.oneCell' = true)
    (h : ∀ W', W'.heap[g]? = some (.cells (splice cur off cs).toArray t (0, 0)) → Below g W W' → Q .normal (ovr D a0 (upd u dk (goInt cs.length))) W') :
    o.wp P (ovr D a0 u) W (fun a' W' => ∃ u', a' = ovr D a0 u' ∧ Q .normal (ovr D a0 u') W') Q := by
  have := step_copy_splice (P := P) (ops := #[]) (E := False) (Q := Q) (K := fun a' W' => ∃ u', a' = ovr D a0 u' ∧ Q .normal (ovr D a0 u') W') hgd d s dT sT ho elem hu hsz dp sp dLen dCap sLen sCap hd hs g off cur t hg cs hn hpos hfit h1 g W (Below.refl _ _) (Nat.le_refl _) (fun w' hF hB => ⟨_, put_in hd' hD u _, h w' hF.out hB⟩)
  rwa [if_pos (wanted_none hgd)] at this
end Go.Proofs.YtcboojhabolcbaaGreatDoor.region
namespace Go.Proofs.YtcboojhabolcbaaGreatDoor.region
open Go Go.RowKit

theorem wp_region_tail {P : Program} {id : Nat} {ops : Array Oper} {Q : Exit → Act → World → Prop} {a0 : Act} {w : World} (hm : P.follows .mixedOrders = true) (D : Nat → Bool)
    (hg : ∀ o ∈ ops, o.guard = none) (hacyc : ∀ (k : Nat) (o : Oper), ops[k]? = some o → ∀ e ∈ o.after, e.on < k) (n m : Nat) (hpos : 0 < m) (hn : ops.size = n + m) (dst : Nat → Nat) (hinj : ∀ k, k < n → ∀ j, j < n → dst j = dst k → j = k)
    (F : Nat → Value → World → Prop) (hst : ∀ k t W W', Below W.heap.size W W' → F k t W → F k t W')
    (hall : ∀ l : Nat → Bool, (∀ k o, ops[k]? = some o → (k < n → l k = true) → k ≤ n → ∀ e ∈ o.after, Region.binds .any e = true → l e.on = true) → ∀ j, j < n → l j = true)
    (hnext : ∀ j, j + 1 < m → ∀ o, ops[n + j + 1]? = some o → ∃ e ∈ o.after, e.on = n + j ∧ Region.binds .any e = true)
    (step : ∀ k o u W, k < n → ops[k]? = some o → Below w.heap.size w W → (∀ s, (∀ k, k < n → dst k ≠ s) → u s = a0.tmps.getD s undef) → (∀ j, j < n → (∃ e ∈ o.after, e.on = j ∧ Region.binds .any e = true) → F j (u (dst j)) W) → o.wp P (ovr D a0 u) W (fun a' W' => ∃ v, a' = ovr D a0 (upd u (dst k) v) ∧ Below W.heap.size W W' ∧ F k v W') Q)
    (M : Nat → (Nat → Value) → World → Prop) (m0 : ∀ u W, Below w.heap.size w W → (∀ j, j < n → F j (u (dst j)) W) → M 0 u W)
    (mid : ∀ j o u W, j < m → ops[n + j]? = some o → M j u W → o.wp P (ovr D a0 u) W (fun a' W' => ∃ u', a' = ovr D a0 u' ∧ M (j + 1) u' W') Q)
    (fin : ∀ u W, M m u W → Q .normal (ovr D a0 u) W) :
    (Code.region id ops true).wp P Q a0 w := by
  refine wp_region_facts hm D hg hacyc (fun l u W => ((∀ j, j < m → l.getD (n + j) false = false) ∧ Below w.heap.size w W ∧ (∀ s, (∀ k, k < n → dst k ≠ s) → u s = a0.tmps.getD s undef) ∧ (∀ k o, k < n → l.getD k false = true → ops[k]? = some o → ∀ e ∈ o.after, Region.binds .any e = true → l.getD e.on false = true) ∧ ∀ k, k < n → l.getD k false = true → F k (u (dst k)) W) ∨ ∃ i, 0 < i ∧ i ≤ m ∧ (∀ k, k < n + i → l.getD k false = true) ∧ (∀ k, n + i ≤ k → k < n + m → l.getD k false = false) ∧ M i u W) (.inl ⟨fun j hj => ?_, (Below.refl _ w).drew, fun s _ => rfl, fun k o hk h => ?_, fun k hk h => ?_⟩) ?_ ?_
  · simp [Array.getD, hn, show n + j < n + m by omega]
  · simp [Array.getD, hn, show k < n + m by omega] at h
  · simp [Array.getD, hn, show k < n + m by omega] at h
  · rintro l u W (⟨h1, _⟩ | ⟨i, hi, him, h2, h3, h⟩) hA
    · have := hA n (by omega)
      have h0 := h1 0 hpos
      rw [Nat.add_zero] at h0
      rw [this] at h0
      cases h0
    · have e : i = m := by
        rcases Nat.lt_or_ge i m with hlt | hge
        · have a := hA (n + i) (by omega)
          have b := h3 (n + i) (Nat.le_refl _) (by omega)
          rw [a] at b
          cases b
        · omega
      subst e
      exact fin u W h
  · rintro l u W k o hI hl hlk ho hd
    have hk : k < n + m := by rw [← hn]; exact (Array.getElem?_eq_some_iff.1 ho).1
    have adv : ∀ i, i < m → k = n + i → (∀ j, j < n + i → l.getD j false = true) → (∀ j, n + i ≤ j → j < n + m → l.getD j false = false) → M i u W → o.wp P (ovr D a0 u) W (fun a' w' => ∃ u', a' = ovr D a0 u' ∧ (((∀ j, j < m → (l.setIfInBounds k true).getD (n + j) false = false) ∧ Below w.heap.size w w' ∧ (∀ s, (∀ k, k < n → dst k ≠ s) → u' s = a0.tmps.getD s undef) ∧ (∀ k' o, k' < n → (l.setIfInBounds k true).getD k' false = true → ops[k']? = some o → ∀ e ∈ o.after, Region.binds .any e = true → (l.setIfInBounds k true).getD e.on false = true) ∧ ∀ k', k' < n → (l.setIfInBounds k true).getD k' false = true → F k' (u' (dst k')) w') ∨ ∃ i, 0 < i ∧ i ≤ m ∧ (∀ k', k' < n + i → (l.setIfInBounds k true).getD k' false = true) ∧ (∀ k', n + i ≤ k' → k' < n + m → (l.setIfInBounds k true).getD k' false = false) ∧ M i u' w')) Q := fun i him hki h2 h3 hM => by
      subst hki
      refine Oper.wp_mono ?_ (mid i o u W him ho hM)
      rintro a' W' ⟨u', rfl, h⟩
      refine ⟨u', rfl, .inr ⟨i + 1, by omega, by omega, fun j hj => ?_, fun j hj hj2 => ?_, h⟩⟩
      · by_cases e : j = n + i
        · subst e; exact listed_ne (by omega)
        · rw [getD_other l (Ne.symm e)]; exact h2 j (by omega)
      · rw [getD_other l (by omega)]; exact h3 j (by omega) hj2
    rcases hI with ⟨h1, hB, hU, hC, hF⟩ | ⟨i, hi, him, h2, h3, hM⟩
    · rcases Nat.lt_or_ge k n with hk' | hk'
      · refine Oper.wp_mono ?_ (step k o u W hk' ho hB hU (fun j hj ⟨e, he, e1, hb⟩ => hF j hj (by rw [← e1]; exact hd e he hb)))
        rintro a' W' ⟨v, rfl, hb, hv⟩
        refine ⟨_, rfl, .inl ⟨fun j hj => ?_, hB.trans (hb.mono hB.size), fun s hs => ?_, ?_, ?_⟩⟩
        · rw [getD_other l (by omega)]; exact h1 j hj
        · have := hs k hk'
          unfold upd
          rw [if_neg (fun e => this e.symm)]
          exact hU s hs
        · intro j o' hj hlj ho' e' he' hb'
          by_cases e2 : k = e'.on
          · rw [← e2]; exact listed_ne (by omega)
          · rw [getD_other l e2]
            by_cases e3 : k = j
            · subst e3
              rw [ho] at ho'
              injection ho' with ho'
              subst ho'
              exact hd e' he' hb'
            · rw [getD_other l e3] at hlj
              exact hC j o' hj hlj ho' e' he' hb'
        · exact facts_put (dst := dst) (hinj k hk') hF (fun j _ _ _ t => hst j t W W' hb) hv
      · obtain ⟨j, rfl⟩ : ∃ j, k = n + j := ⟨k - n, by omega⟩
        cases j with
        | zero =>
          have hA : ∀ j, j < n → l.getD j false = true := hall (fun j => l.getD j false) (fun j o' ho' hj hjn e he hb => by
            by_cases e2 : j = n
            · subst e2
              rw [Nat.add_zero, ho'] at ho
              injection ho with ho
              subst ho
              exact hd e he hb
            · exact hC j o' (by omega) (hj (by omega)) ho' e he hb)
          exact adv 0 hpos rfl (fun j hj => hA j (by omega)) (fun j hj hj2 => by
            obtain ⟨i, rfl⟩ : ∃ i, j = n + i := ⟨j - n, by omega⟩
            exact h1 i (by omega)) (m0 u W hB (fun j hj => hF j hj (hA j hj)))
        | succ j =>
          obtain ⟨e, he, e1, hb⟩ := hnext j (by omega) o ho
          have a := hd e he hb
          rw [e1, h1 j (by omega)] at a
          cases a
    · have hki : n + i ≤ k := by
        rcases Nat.lt_or_ge k (n + i) with hlt | hge
        · rw [h2 k hlt] at hlk; cases hlk
        · exact hge
      by_cases e : k = n + i
      · exact adv i (by omega) e h2 h3 hM
      · obtain ⟨j, rfl⟩ : ∃ j, k = n + j + 1 := ⟨k - n - 1, by omega⟩
        obtain ⟨e', he, e1, hb⟩ := hnext j (by omega) o ho
        have a := hd e' he hb
        rw [e1, h3 (n + j) (by omega) (by omega)] at a
        cases a
section
variable {P : Program} {o : Oper} {D : Nat → Bool} {a0 : Act} {u : Nat → Value} {W W' : World} {Q : Exit → Act → World → Prop} {dk : Nat} {F : Value → World → Prop} {N : (Nat → Value) → World → Prop}
/-- An operation that makes memory, among those that only grow the world. -/
theorem plainB {v : Value} (hd : o.dst = some dk) (hD : D dk = true) (hrun : (execOp (ovr D a0 u).eval o).run P W = .ok (.value v) W') (hR : Below W.heap.size W W') (hF : F v W') :
    o.wp P (ovr D a0 u) W (fun a' W' => ∃ v, a' = ovr D a0 (upd u dk v) ∧ Below W.heap.size W W' ∧ F v W') Q := wp_value hrun ⟨v, put_in hd hD u v, hR, hF⟩
/-- append, among the operations that only grow the world. -/
theorem plainA {s x : Operand} {t1 t2 : TypeId} {vs vx v : Value} (hd : o.dst = some dk) (hD : D dk = true) (ho : o.op = .call { callee := .builtin .append, args := #[s, x], argTypes := #[t1, t2] }) (hs : (ovr D a0 u).eval s = vs) (hx : (ovr D a0 u).eval x = vx)
    (hr : (Builtin.append_ #[t1, t2] o.type #[vs, vx]).run P W = .ok v W') (hR : Below W.heap.size W W') (hF : F v W') :
    o.wp P (ovr D a0 u) W (fun a' W' => ∃ v, a' = ovr D a0 (upd u dk v) ∧ Below W.heap.size W W' ∧ F v W') Q :=
  plainB hd hD (by simp [execOp, ho, resolve, invoke, builtin, hs, hx, hr, Result.andThen]) hR hF
/-- An operation of the tail: a value. -/
theorem tailV {v : Value} (hd : o.dst = some dk) (hD : D dk = true) (hrun : (execOp (ovr D a0 u).eval o).run P W = .ok (.value v) W') (hN : N (upd u dk v) W') :
    o.wp P (ovr D a0 u) W (fun a' W' => ∃ u', a' = ovr D a0 u' ∧ N u' W') Q := wp_value hrun ⟨_, put_in hd hD u v, hN⟩
/-- An operation of the tail: a call. -/
theorem tailC {f : FuncId} {args : Array Value} (hd : o.dst = some dk) (hD : D dk = true) (hrun : (execOp (ovr D a0 u).eval o).run P W = .ok (.enter f args) W) (hc : Calls P f args W fun e w' => ∃ v, e = .returned v ∧ N (upd u dk v) w') :
    o.wp P (ovr D a0 u) W (fun a' W' => ∃ u', a' = ovr D a0 u' ∧ N u' W') Q := wp_call hrun (hc.mono fun _ _ ⟨v, he, h1⟩ => ⟨v, he, _, put_in hd hD u v, h1⟩)
/-- An operation of the tail: a store. -/
theorem tailS (hd : o.dst = none) (hrun : (execOp (ovr D a0 u).eval o).run P W = .ok .skip W') (hN : N u W') :
    o.wp P (ovr D a0 u) W (fun a' W' => ∃ u', a' = ovr D a0 u' ∧ N u' W') Q := wp_skipped hrun ⟨u, put_no hd u undef, hN⟩
/-- An operation of the tail: append. -/
theorem tailA {s x : Operand} {t1 t2 : TypeId} {vs vx v : Value} (hd : o.dst = some dk) (hD : D dk = true) (ho : o.op = .call { callee := .builtin .append, args := #[s, x], argTypes := #[t1, t2] }) (hs : (ovr D a0 u).eval s = vs) (hx : (ovr D a0 u).eval x = vx)
    (hr : (Builtin.append_ #[t1, t2] o.type #[vs, vx]).run P W = .ok v W') (hN : N (upd u dk v) W') :
    o.wp P (ovr D a0 u) W (fun a' W' => ∃ u', a' = ovr D a0 u' ∧ N u' W') Q :=
  tailV hd hD (by simp [execOp, ho, resolve, invoke, builtin, hs, hx, hr, Result.andThen]) hN
end
end Go.Proofs.YtcboojhabolcbaaGreatDoor.region
