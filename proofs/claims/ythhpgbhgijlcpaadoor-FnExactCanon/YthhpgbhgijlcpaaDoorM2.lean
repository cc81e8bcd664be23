/-
  Digits laid one ahead of the other. Lists of entries (a number and a text) in memory: what may be read of one (EntsAt); a row of the call's own (OwnE). The texts that the laws mark with. Chapter 6: a number as a text, by the specification. The laws' own helpers on lists of numbers: a copy, a comparison, marks written and found again. 'append([]Ref{}, list...)': a list of its own, and nothing that there was is changed. 'append([]int64{}, row...)': a copy of a row, nil or not, as a law for the walk.
-/
import Derived.Test.YthhpgbhgijlcpaaDoorM1
import Derived.Lib.ItoaNum
import Derived.Laws.BytesArg
import Derived.Laws.Concat
import Derived.Maps.AppendAt
import Derived.Deep.Upon
import Derived.Laws.AppendOwnNone
namespace Go.Proofs.YthhpgbhgijlcpaaDoor.gr
open Go.RowKit rows
set_option maxRecDepth 100000
set_option linter.unusedVariables false

/-- Digits laid one ahead of the other: where a number's text stands when n is left. -/
def DigAt (n0 n : Int) (s : List UInt8) : Prop := s = [] ∧ n = n0 ∨ s ≠ [] ∧ (n = 0 ∧ s = Lib.decDigits n0.natAbs ∨ n ≠ 0 ∧ Lib.decDigits n.natAbs ++ s = Lib.decDigits n0.natAbs)
theorem digAt_next {n0 n : Int} {s : List UInt8} (h : DigAt n0 n s) (hg : s = [] ∨ n ≠ 0) : DigAt n0 (n.tdiv 10) (UInt8.ofNat (48 + n.natAbs % 10) :: s) := by
  have hd : (n.tdiv 10).natAbs = n.natAbs / 10 := Int.natAbs_tdiv n 10
  have hD : Lib.decDigits n.natAbs = if n.natAbs < 10 then [UInt8.ofNat (48 + n.natAbs)] else Lib.decDigits (n.natAbs / 10) ++ [UInt8.ofNat (48 + n.natAbs % 10)] := by
    rw [Lib.decDigits]
    by_cases c : n.natAbs < 10
    · rw [dif_pos c, if_pos c]
    · rw [dif_neg c, if_neg c]
  have hT : Lib.decDigits n.natAbs ++ s = Lib.decDigits n0.natAbs := by
    rcases h with ⟨rfl, rfl⟩ | ⟨h1, h2 | h2⟩
    · exact List.append_nil _
    · rcases hg with hg | hg
      · exact absurd hg h1
      · exact absurd h2.1 hg
    · exact h2.2
  refine .inr ⟨by simp, ?_⟩
  by_cases c : n.natAbs < 10
  · refine .inl ⟨by omega, ?_⟩
    rw [hD, if_pos c] at hT
    rw [← hT, Nat.mod_eq_of_lt c]
    rfl
  · refine .inr ⟨by omega, ?_⟩
    rw [hD, if_neg c] at hT
    rw [hd, ← hT, List.append_assoc]
    rfl
theorem digAt_end {n0 n : Int} {s : List UInt8} (h : DigAt n0 n s) (hg : ¬ (s = [] ∨ n ≠ 0)) : s = Lib.decDigits n0.natAbs := by
  rcases h with ⟨h1, _⟩ | ⟨_, h2 | h2⟩
  · exact absurd (.inl h1) hg
  · exact h2.2
  · exact absurd (.inr h2.1) hg
theorem itoa_abs (n : Int) : Lib.itoa n = if n < 0 then 45 :: Lib.decDigits n.natAbs else Lib.decDigits n.natAbs := by
  unfold Lib.itoa
  by_cases h : n < 0
  · rw [if_pos h, if_pos h]
  · rw [if_neg h, if_neg h]
    congr 1
    omega
end Go.Proofs.YthhpgbhgijlcpaaDoor.gr
namespace Go.Proofs.YthhpgbhgijlcpaaDoor.ents
open Go.RowKit rows

theorem bel_drewN {B n : Nat} {w w' : World} (h : Below B w w') : Below B w (w'.drewN n) := ⟨h.os, h.tape, h.output, h.size, h.block⟩

/-- An entry: its Index, its Name. -/
abbrev Ent := Int × ByteArray
abbrev entD : Ent := (0, ByteArray.empty)
/-- The entries as cells. -/
def cellsE : List Ent → List Value
  | [] => []
  | e :: es => .int .i64 e.1 :: .string e.2 :: cellsE es
theorem cellsE_length : ∀ es : List Ent, (cellsE es).length = es.length * 2
  | [] => rfl
  | _ :: es => by simp [cellsE, cellsE_length es]; omega
theorem cellsE_append : ∀ es fs : List Ent, cellsE (es ++ fs) = cellsE es ++ cellsE fs
  | [], _ => rfl
  | _ :: es, fs => by simp [cellsE, cellsE_append es fs]
theorem cellsE_at : ∀ (es : List Ent) (i : Nat), i < es.length → (cellsE es)[i * 2]? = some (.int .i64 (es.getD i entD).1) ∧ (cellsE es)[i * 2 + 1]? = some (.string (es.getD i entD).2)
  | [], _, h => by simp at h
  | e :: es, 0, _ => by simp [cellsE]
  | e :: es, i + 1, h => by
    have := cellsE_at es i (by simpa using h)
    rw [show (i + 1) * 2 = i * 2 + 1 + 1 by omega]
    simpa [cellsE] using this
theorem cellsE_one : ∀ es : List Ent, ∀ v ∈ cellsE es, v.oneCell' = true
  | [], v, h => by simp [cellsE] at h
  | e :: es, v, h => by
    simp only [cellsE, List.mem_cons] at h
    rcases h with rfl | rfl | h
    · rfl
    · rfl
    · exact cellsE_one es v h

/-- The value v is a slice whose entries are es. -/
def EntsAt (w : World) (v : Value) (es : List Ent) : Prop :=
  ∃ a cap, v = .slice a es.length cap ∧ es.length ≤ cap ∧ cap ≤ maxLen ∧ (a = none → cap = 0) ∧
    (0 < es.length → ∃ b off, a = some ⟨b, off, none⟩ ∧ b < w.heap.size ∧ ∀ i, i < es.length → w.cell? ⟨b, off + i * 2, none⟩ = some (.int .i64 (es.getD i entD).1) ∧ w.cell? ⟨b, off + i * 2 + 1, none⟩ = some (.string (es.getD i entD).2))

theorem entsAt_below {w w' : World} {v : Value} {es : List Ent} (h : EntsAt w v es) (hb : Below w.heap.size w w') : EntsAt w' v es := by
  obtain ⟨a, cap, rfl, h1, h2, h4, h3⟩ := h
  refine ⟨a, cap, rfl, h1, h2, h4, fun hp => ?_⟩
  obtain ⟨b, off, rfl, hlt, hc⟩ := h3 hp
  exact ⟨b, off, rfl, Nat.lt_of_lt_of_le hlt hb.size, fun i hi => ⟨(hb.cell (p := ⟨b, off + i * 2, none⟩) hlt).trans (hc i hi).1, (hb.cell (p := ⟨b, off + i * 2 + 1, none⟩) hlt).trans (hc i hi).2⟩⟩
theorem entsAt_drewN {w : World} {n : Nat} {v : Value} {es : List Ent} (h : EntsAt w v es) : EntsAt (w.drewN n) v es := h

/-- An entry as a value. -/
abbrev ev (e : Ent) : Value := .agg #[.int .i64 e.1, .string e.2]
end Go.Proofs.YthhpgbhgijlcpaaDoor.ents
namespace Go.Proofs.YthhpgbhgijlcpaaDoor.ents
open Go.RowKit rows
set_option maxRecDepth 100000

/-- A digit as a text. -/
def dgt (k : Nat) : ByteArray := strOfNums [48 + (k : Int) % 10]
theorem dgt_size (k : Nat) : (dgt k).size = 1 := by simp [dgt, strOfNums, ByteArray.size]
def mtd : Nat → Nat → ByteArray → ByteArray
  | 0, _, out => out
  | n + 1, k, out => if k = 0 then out else mtd n (k / 10) (dgt k ++ out)
theorem mtd_step {n k : Nat} (h : k ≠ 0) (out : ByteArray) : mtd (n + 1) k out = mtd n (k / 10) (dgt k ++ out) := by simp [mtd, h]
theorem mtd_zero (n : Nat) (out : ByteArray) : mtd n 0 out = out := by cases n <;> simp [mtd]
/-- What is marked with at a number. -/
def mt (k : Nat) : ByteArray := ⟨#[109]⟩ ++ mtd k k ByteArray.empty

/-- 'string([]byte{x})'. -/
theorem conv_one (W : World) (x : Int) : (convert 43 9 (.slice (some ⟨W.heap.size, 0, none⟩) 1 1)).run Tryd.prog (W.alloc (.cells #[.int .u8 x] 5)) = .ok (.string (strOfNums [x])) (W.alloc (.cells #[.int .u8 x] 5)) := by
  refine run_convert_bytes_arg (P := Tryd.prog) _ 43 5 Tryd.underlying43 Tryd.underlying5 W.heap.size 0 1 1 [x] rfl ?_ 9 Tryd.underlying9
  intro i hi
  obtain rfl : i = 0 := by omega
  have := cell_one_new W (.int .u8 x) 5 0 (.int .u8 x) rfl
  exact this

end Go.Proofs.YthhpgbhgijlcpaaDoor.ents
namespace Go.Proofs.YthhpgbhgijlcpaaDoor.gr
open Go.RowKit rows ents
set_option maxRecDepth 100000
set_option linter.unusedVariables false
set_option linter.unusedSimpArgs false

/-- A text's bytes. -/
abbrev bs (s : List UInt8) : ByteArray := ⟨s.toArray⟩
theorem toList_loop (s : ByteArray) : ∀ n i r, s.size - i = n → r ≠ [] → ByteArray.toList.loop s i r ≠ []
  | 0, i, r, hn, hr => by
    unfold ByteArray.toList.loop
    rw [if_neg (by omega)]
    simpa using hr
  | n + 1, i, r, hn, hr => by
    unfold ByteArray.toList.loop
    rw [if_pos (by omega)]
    exact toList_loop s n (i + 1) _ (by omega) (by simp)
theorem toList_more {s : ByteArray} (h : 0 < s.size) : s.toList.isEmpty = false := by
  rw [List.isEmpty_eq_false_iff]
  unfold ByteArray.toList
  unfold ByteArray.toList.loop
  rw [if_pos h]
  exact toList_loop s _ _ _ rfl (by simp)
def strLen : Value → Nat
  | .string s => s.size
  | _ => 0
def numAbs : Value → Nat
  | .int _ n => n.natAbs
  | _ => 0
theorem strOf_digit (d : Nat) : strOfNums [48 + (d : Int)] = bs [UInt8.ofNat (48 + d)] := by
  simp only [strOfNums, List.map_cons, List.map_nil]
  rw [show (48 + (d : Int)).toNat = 48 + d by omega]
theorem bs_append (x y : List UInt8) : bs x ++ bs y = bs (x ++ y) := ByteArray.mk_append_mk x y
theorem bs_size (x : List UInt8) : (bs x).size = x.length := by simp [bs, ByteArray.size]
theorem pow_small {l a b : Nat} (ha : 0 < a) (h : a * 10 ^ l ≤ b) (hb : b ≤ 9223372036854775808) : l ≤ 18 := by
  rcases Nat.lt_or_ge 18 l with hl | hl
  · have h1 : 10 ^ 19 ≤ 10 ^ l := Nat.pow_le_pow_right (by decide) hl
    have h2 : 1 * 10 ^ l ≤ a * 10 ^ l := Nat.mul_le_mul_right _ ha
    have h3 : (10 : Nat) ^ 19 = 10000000000000000000 := by decide
    omega
  · exact hl
set_option maxHeartbeats 4000000 in
theorem l1IntT_any (n0 : Int) (hn : I64 n0) (w : World) :
    Calls Tryd.prog 32 #[.int .i64 n0] w fun e w' => e = .returned (.string (bs (Lib.itoa n0))) ∧ Below w.heap.size w w' := by
  have HN : Hid _ := hn
  unfold I64 at hn
  go_enter Tryd.func32, Tryd.ntmps32
  go_wp2_with fail
  go_loopw [0, 3] (fun p q wr => ∃ (n : Int) (s : List UInt8) (sb : ByteArray), p = .int .i64 n ∧ q = .string sb ∧ sb = bs s ∧ DigAt n0 n s ∧ n.natAbs * 10 ^ s.length ≤ n0.natAbs ∧ s.length ≤ 19 ∧ (n.natAbs ≤ n0.natAbs) ∧ Below w.heap.size w wr) (fun p q _ => 2 * numAbs p + (1 - strLen q))
  case atStart => exact ⟨n0, [], _, rfl, rfl, rfl, .inl ⟨rfl, rfl⟩, by simp, by simp, Nat.le_refl _, Below.refl _ _⟩
  case round =>
    obtain ⟨n, s, sb, rfl, rfl, hsb, hD, hp, hl, hab, hB⟩ := hrel
    have HB : Hid _ := hB
    have HD : Hid _ := hD
    have HSB : Hid _ := hsb
    have hz : sb.size = s.length := by rw [hsb]; exact bs_size s
    clear hB hD hsb
    by_cases hg : s = [] ∨ n ≠ 0
    · have hl18 : s.length ≤ 18 := by
        rcases hg with hg | hg
        · rw [hg]; exact Nat.zero_le _
        · exact pow_small (by omega) hp (by omega)
      have hdv : (n.tdiv 10).natAbs = n.natAbs / 10 := Int.natAbs_tdiv n 10
      have hmd : (n.tmod 10).natAbs = n.natAbs % 10 := Int.natAbs_tmod n 10
      obtain ⟨d, hd⟩ : ∃ d, n.natAbs % 10 = d := ⟨_, rfl⟩
      have hd9 : d ≤ 9 := by omega
      have CV := conv_one wr (48 + (d : Int))
      rw [strOf_digit] at CV
      have hds : (bs [UInt8.ofNat (48 + d)]).size = 1 := bs_size _
      have hap : bs [UInt8.ofNat (48 + d)] ++ sb = bs (UInt8.ofNat (48 + d) :: s) := by rw [HSB.out]; exact bs_append _ _
      have HAP : Hid _ := hap
      have HNX : Hid (DigAt n0 (n.tdiv 10) (UInt8.ofNat (48 + d) :: s)) := by rw [← hd]; exact digAt_next HD.out hg
      have HP : Hid ((n.tdiv 10).natAbs * 10 ^ (s.length + 1) ≤ n0.natAbs) := by
        show _ ≤ _
        rw [hdv, Nat.pow_succ]
        have h1 : n.natAbs / 10 * 10 ≤ n.natAbs := Nat.div_mul_le_self _ _
        calc n.natAbs / 10 * (10 ^ s.length * 10) = n.natAbs / 10 * 10 * 10 ^ s.length := by rw [Nat.mul_comm (10 ^ s.length) 10, Nat.mul_assoc]
          _ ≤ n.natAbs * 10 ^ s.length := Nat.mul_le_mul_right _ h1
          _ ≤ _ := hp
      have HB2 : Hid _ := HB.out.alloc HB.out.size (.cells #[.int .u8 (48 + (d : Int))] 5)
      have hss : ¬ (bs [UInt8.ofNat (48 + d)]).size + sb.size > 9223372036854775807 := by omega
      have hsz : (bs [UInt8.ofNat (48 + d)] ++ sb).size = 1 + sb.size := by rw [ByteArray.size_append, hds]
      generalize bs [UInt8.ofNat (48 + d)] = D at *
      by_cases hneg : n.tmod 10 < 0
      · have hm : n.tmod 10 = -(d : Int) := by omega
        rw [hm] at hneg
        clear hap hp hmd hd
        rcases hg with hg | hg
        · subst hg
          obtain rfl : sb = ⟨#[]⟩ := HSB.out
          have hz0 : (⟨#[]⟩ : ByteArray).size = 0 := rfl
          go_wp2
          exact ⟨⟨n.tdiv 10, _, _, rfl, rfl, HAP.out, HNX.out, HP.out, by simp only [List.length_cons]; omega, by omega, HB2⟩, by simp only [strLen, numAbs]; omega⟩
        · by_cases hs0 : s = []
          · subst hs0
            obtain rfl : sb = ⟨#[]⟩ := HSB.out
            have hz0 : (⟨#[]⟩ : ByteArray).size = 0 := rfl
            go_wp2
            exact ⟨⟨n.tdiv 10, _, _, rfl, rfl, HAP.out, HNX.out, HP.out, by simp only [List.length_cons]; omega, by omega, HB2⟩, by simp only [strLen, numAbs]; omega⟩
          · have hpos : 0 < s.length := List.length_pos_iff.2 hs0
            have hne := toList_more (s := sb) (by omega)
            go_wp2
            exact ⟨⟨n.tdiv 10, _, _, rfl, rfl, HAP.out, HNX.out, HP.out, by simp only [List.length_cons]; omega, by omega, HB2⟩, by simp only [strLen, numAbs]; omega⟩
      · have hm : n.tmod 10 = (d : Int) := by omega
        rw [hm] at hneg
        clear hap hp hmd hd
        rcases hg with hg | hg
        · subst hg
          obtain rfl : sb = ⟨#[]⟩ := HSB.out
          have hz0 : (⟨#[]⟩ : ByteArray).size = 0 := rfl
          go_wp2
          exact ⟨⟨n.tdiv 10, _, _, rfl, rfl, HAP.out, HNX.out, HP.out, by simp only [List.length_cons]; omega, by omega, HB2⟩, by simp only [strLen, numAbs]; omega⟩
        · by_cases hs0 : s = []
          · subst hs0
            obtain rfl : sb = ⟨#[]⟩ := HSB.out
            have hz0 : (⟨#[]⟩ : ByteArray).size = 0 := rfl
            go_wp2
            exact ⟨⟨n.tdiv 10, _, _, rfl, rfl, HAP.out, HNX.out, HP.out, by simp only [List.length_cons]; omega, by omega, HB2⟩, by simp only [strLen, numAbs]; omega⟩
          · have hpos : 0 < s.length := List.length_pos_iff.2 hs0
            have hne := toList_more (s := sb) (by omega)
            go_wp2
            exact ⟨⟨n.tdiv 10, _, _, rfl, rfl, HAP.out, HNX.out, HP.out, by simp only [List.length_cons]; omega, by omega, HB2⟩, by simp only [strLen, numAbs]; omega⟩
    · have hs0 : s ≠ [] := fun e => hg (.inl e)
      have hn0 : n = 0 := Decidable.byContradiction fun e => hg (.inr e)
      have hpos : 0 < s.length := List.length_pos_iff.2 hs0
      have hne := toList_more (s := sb) (by omega)
      have hE := digAt_end HD.out hg
      have hI := itoa_abs n0
      rw [← hE] at hI
      have HI : Hid _ := hI
      have hss : ¬ (⟨#[45]⟩ : ByteArray).size + sb.size > 9223372036854775807 := by
        have : (⟨#[45]⟩ : ByteArray).size = 1 := rfl
        omega
      subst hn0
      clear hE hI hp
      by_cases hneg : n0 < 0
      · have hR : bs (Lib.itoa n0) = (⟨#[45]⟩ : ByteArray) ++ sb := by rw [HI.out, if_pos hneg, HSB.out]; exact (bs_append [45] s).symm
        have HR : Hid _ := hR
        clear hR
        go_wp2
        go_ret
        exact ⟨by rw [HR.out]; rfl, HB⟩
      · have hR : bs (Lib.itoa n0) = sb := by rw [HI.out, if_neg hneg, HSB.out]
        have HR : Hid _ := hR
        clear hR
        go_wp2
        go_ret
        exact ⟨by rw [HR.out]; rfl, HB⟩
end Go.Proofs.YthhpgbhgijlcpaaDoor.gr
namespace Go.Proofs.YthhpgbhgijlcpaaDoor.rows
open Go.RowKit

theorem set_take {xs : List Int} {k : Nat} (h : k < xs.length) : (xs.take k ++ List.replicate (xs.length - k) 0).set k (xs.getD k 0) = xs.take (k + 1) ++ List.replicate (xs.length - (k + 1)) 0 := by
  apply List.ext_getElem?
  intro i
  simp only [List.getElem?_set, List.getElem?_append, List.length_take, List.getElem?_take, List.getElem?_replicate, List.length_append, List.length_replicate]
  rcases Nat.lt_trichotomy i k with hi | hi | hi
  · grind
  · grind
  · grind

/-- The numbers from k on. -/
def marks (k : Int) (n : Nat) : List Int := (List.range n).map (fun i : Nat => k + (i : Int))
theorem marks_length (k : Int) (n : Nat) : (marks k n).length = n := by simp [marks]
theorem marks_getD (k : Int) {n i : Nat} (h : i < n) : (marks k n).getD i 0 = k + i := by simp [marks, List.getD_eq_getElem?_getD, h]
theorem marks_set {xs : List Int} {k : Nat} (k0 : Int) (h : k < xs.length) : (marks k0 k ++ xs.drop k).set k (k0 + (k : Int)) = marks k0 (k + 1) ++ xs.drop (k + 1) := by
  apply List.ext_getElem?
  intro i
  simp only [marks, List.getElem?_set, List.getElem?_append, List.length_map, List.length_range, List.getElem?_map, List.getElem?_drop, List.length_append, List.length_drop]
  grind

end Go.Proofs.YthhpgbhgijlcpaaDoor.rows
namespace Go.Proofs.YthhpgbhgijlcpaaDoor.gr
open Go.RowKit rows
set_option maxRecDepth 100000

theorem refs_news {w : World} {ad : Addr} {n cap : Nat} {es : List Rf} (h : RefsAt w (.slice (some ad) n cap) es) : ∀ j u, (cellsR es)[j]? = some u → w.cell? (ad.add j) = some u := by
  intro j u hj
  obtain ⟨a', cap', e, _, _, _, hc⟩ := h
  injection e with e1 e2 e3
  subst e1
  have hlt : j < es.length * 2 := by
    have := (List.getElem?_eq_some_iff.1 hj).1
    rw [cellsR_length] at this
    exact this
  obtain ⟨b, off, e1, _, hcc⟩ := hc (by omega)
  injection e1 with e1
  subst e1
  have hc := hcc (j / 2) (by omega)
  have ca := cellsR_at es (j / 2) (by omega)
  have hadd : (⟨b, off, none⟩ : Addr).add j = ⟨b, off + j, none⟩ := by unfold Addr.add; split <;> simp_all
  rw [hadd]
  rcases Nat.mod_two_eq_zero_or_one j with hm | hm
  · have ej : j = j / 2 * 2 := by omega
    rw [← ej] at hc ca
    rw [ca.1] at hj
    rw [← hj]
    exact hc.1
  · have ej : j = j / 2 * 2 + 1 := by omega
    have e2 : off + j = off + j / 2 * 2 + 1 := by omega
    rw [← ej] at ca
    rw [ca.2] at hj
    rw [← hj, e2]
    exact hc.2
theorem refs_len {w : World} {a : Option Addr} {n cap : Nat} {es : List Rf} (h : RefsAt w (.slice a n cap) es) : es.length = n ∧ (a = none → n = 0) := by
  obtain ⟨a', cap', e, h1, _, h2, _⟩ := h
  injection e with e1 e2 e3
  subst e1 e2 e3
  exact ⟨rfl, fun ha => by have := h2 ha; omega⟩
theorem src_refs {w : World} {a : Option Addr} {n cap : Nat} {es : List Rf} (h : RefsAt w (.slice a n cap) es) : Src Tryd.prog 2 29 (.slice a n cap) n (cellsR es) w := by
  obtain ⟨hl, hz⟩ := refs_len h
  cases a with
  | none =>
    have hn := hz rfl
    have e : es = [] := List.eq_nil_of_length_eq_zero (by omega)
    subst e hn
    exact ⟨.inl ⟨_, Tryd.underlying29⟩, fun w' => by simp [Builtin.lenOf], by simp [Builtin.firstCells, cellsR], by simp [Builtin.firstCells, cellsR], by simp [cellsR], fun u hu => by simp [cellsR] at hu⟩
  | some ad =>
    have hc : (cellsR es).length = n * 2 := by rw [cellsR_length, hl]
    exact ⟨.inl ⟨_, Tryd.underlying29⟩, fun w' => by simp [Builtin.lenOf], run_firstCells_some w 2 n ad n cap (cellsR es) hc (refs_news h), run_firstCells_some w.drew 2 n ad n cap (cellsR es) hc (refs_news (w := w.drew) h), hc, cellsR_one es⟩

/-- Onto an empty list of no room. -/
theorem run_app0 {w : World} {g : Nat} {a : Option Addr} {n cap : Nat} {es : List Rf} (h : RefsAt w (.slice a n cap) es) (hl : n ≤ 1048576) (hg : w.heap[g]? = some (.cells #[] 53 (0, 0))) (ty : TypeId) :
    ∃ (q c : Nat) (w' : World), (Builtin.append_ #[29, 29] ty #[.slice (some ⟨g, 0, none⟩) 0 0, .slice a n cap]).run Tryd.prog w = .ok (.slice (some ⟨q, 0, none⟩) n c) w' ∧ (q = g ∨ w.heap.size ≤ q) ∧ (∀ base, base ≤ q → OwnR w' base (.slice (some ⟨q, 0, none⟩) n c) es) ∧ Below w.heap.size w w' := by
  obtain ⟨i0, hi, hz0, hz1, hz2⟩ := info_parts infoR
  have S := src_refs h
  obtain ⟨hlen, _⟩ := refs_len h
  have ho : ∀ {w' : World} {q c base : Nat} (cur : Array Value), base ≤ q → w'.heap[q]? = some (.cells cur 53 (0, 0)) → n ≤ c → c ≤ maxLen → cur.size = c * 2 → cur.toList.take (n * 2) = cellsR es → OwnR w' base (.slice (some ⟨q, 0, none⟩) n c) es := by
    intro w' q c base cur h1 h2 h3 h4 h5 h6
    unfold OwnR
    rw [hlen]
    exact ⟨by rw [cellsR_length, hlen], .inr ⟨q, c, cur, rfl, h1, h2, h3, h4, h5, h6⟩⟩
  rcases Nat.eq_zero_or_pos n with h0 | hp
  · subst h0
    have e : es = [] := List.eq_nil_of_length_eq_zero hlen
    subst e
    have hr := run_append_nothing w 29 29 ty 53 i0 Tryd.underlying29 hi (some ⟨g, 0, none⟩) 0 0 (Nat.le_refl _) (.slice a 0 cap) (by rw [hz1]; exact S)
    exact ⟨g, 0, w, hr, .inl rfl, fun base hb => ho #[] hb hg (Nat.le_refl _) (by decide) rfl rfl, Below.refl _ _⟩
  · have hold : (Builtin.firstCells i0.size 0 (.slice (some ⟨g, 0, none⟩) 0 0)).run Tryd.prog w.drew = .ok ([] : List Value).toArray w.drew := run_firstCells_some w.drew i0.size 0 ⟨g, 0, none⟩ 0 0 [] (by simp) (fun j v hj => by simp at hj)
    have hr := run_append_grow_src w 29 29 ty 53 i0 (.agg #[.int .i64 0, .int .i64 0]) Tryd.underlying29 hi hz0 (some ⟨g, 0, none⟩) 0 0 [] hold (.slice a n cap) n (cellsR es) (by rw [hz1]; exact S) (by omega) (by omega) (by rw [hz2]; exact growslice_fits (by omega) (by omega))
    have hge := grownCap_ge w (0 + n) 0 53
    have hcm : grownCap w (0 + n) 0 53 ≤ maxLen := grownCap_le_maxLen w (0 + n) 0 53 (by unfold maxLen; omega)
    rw [Nat.zero_add] at hr hge hcm
    refine ⟨w.heap.size, _, _, hr, .inr (Nat.le_refl _), fun base hb => ho _ hb (heap_alloc_new w.drew _) hge hcm ?_ ?_, ⟨rfl, rfl, rfl, by simp, fun j hj => Below.heap_alloc w.drew _ j hj⟩⟩
    · simp [Builtin.zeroCells, Value.cells, cellsR_length, hlen]
      omega
    · simp only [List.nil_append, Array.toList_append]
      exact List.take_left' (by rw [cellsR_length, hlen])
end Go.Proofs.YthhpgbhgijlcpaaDoor.gr
namespace Go.Proofs.YthhpgbhgijlcpaaDoor.rows
open Go.RowKit

/-- Behind 'append([]int64{}, row...)': a row of the call's own. -/
theorem copied_own {w w1 : World} {v' : Value} {xs : List Int} (hown : w1.ownsRow w.heap.size 2 1 v' (0 + xs.length) ([] ++ cellsOf xs)) (hgrow : (w.alloc (.cells #[] 2)).grownBy w1 (some w.heap.size))
    (hnn : v' = .slice none 0 0 ↔ Value.slice (some ⟨w.heap.size, 0, none⟩) 0 0 = .slice none 0 0 ∧ xs.length = 0) :
    ∃ g cap, v' = .slice (some ⟨g, 0, none⟩) xs.length cap ∧ w.heap.size ≤ g ∧ w1.ownsRow w.heap.size 2 1 (.slice (some ⟨g, 0, none⟩) xs.length cap) xs.length (cellsOf xs) ∧ Below w.heap.size w w1 := by
  rw [Nat.zero_add, List.nil_append] at hown
  have h' := hown
  obtain ⟨_, ⟨rfl, _⟩ | ⟨g, cap, cur, rfl, hg, _⟩⟩ := hown
  · exact absurd (hnn.1 rfl).1 (by simp)
  · exact ⟨g, cap, rfl, hg, h', ((Below.refl _ _).alloc (Nat.le_refl _) _).grown hgrow (by simp) (fun k e => by cases e; exact Nat.le_refl _)⟩

theorem own_row {w : World} {base n : Nat} {v : Value} {xs : List Int} (h : w.ownsRow base 2 1 v n (cellsOf xs)) (hn : xs.length = n) : Own w base v xs := by
  subst hn; exact h

/-- One law for every list: the operation reads an empty slice just made (the last block) and the list. -/
theorem wpList_copied {w : World} {ops : Array Oper} {rest : List Oper} {o : Oper} {act : Act} {Q : Exit → Act → World → Prop} {a : Option Addr} {cap : Nat} {xs : List Int}
    (h : IntsAt w (.slice a xs.length cap) xs) (hl : xs.length ≤ 1048576) (hgd : o.guard = none) (s x : Operand) (ho : o.op = .call { callee := .builtin .append, args := #[s, x], argTypes := #[72, 72] })
    (hs : act.eval s = .slice (some ⟨w.heap.size, 0, none⟩) 0 0) (hx : act.eval x = .slice a xs.length cap)
    (hK : ∀ g cap' w1, w.heap.size ≤ g → w1.ownsRow w.heap.size 2 1 (.slice (some ⟨g, 0, none⟩) xs.length cap') xs.length (cellsOf xs) → Below w.heap.size w w1 → wpList Tryd.prog ops Q rest (act.put o.dst (.slice (some ⟨g, 0, none⟩) xs.length cap')) w1) :
    wpList Tryd.prog ops Q (o :: rest) act (w.alloc (.cells #[] 2)) := by
  obtain ⟨i0, hi, hz0, hz1, hz2⟩ := info_parts info
  have OWN : (w.alloc (.cells #[] 2)).ownsRow w.heap.size 2 1 (.slice (some ⟨w.heap.size, 0, none⟩) 0 0) 0 [] := ⟨rfl, .inr ⟨w.heap.size, 0, #[], rfl, Nat.le_refl _, heap_alloc_new w _, Nat.le_refl _, by decide, rfl, rfl⟩⟩
  have h' := h
  obtain ⟨a', cap', e, hlc, hcm, hnil, _⟩ := h
  injection e with e1 e2 e3
  subst e1 e3
  cases a with
  | none =>
    have hcap := hnil rfl
    have e : xs = [] := List.eq_nil_of_length_eq_zero (by omega)
    subst e hcap
    refine wpList_append_own_none hgd s x 72 ho _ 2 i0 1 Tryd.underlying72 hi _ 0 [] hs OWN hx ?_
    exact hK _ _ _ (Nat.le_refl _) OWN ((Below.refl _ _).alloc (Nat.le_refl _) _)
  | some ad =>
    refine wpList_append_own _ hgd s x 72 ho _ 2 i0 (.int .i64 0) 1 8 Tryd.underlying72 hi hz0 hz1 hz2 rfl (by decide) _ 0 [] hs OWN ad xs.length cap (cellsOf xs) hx (by simp) (ints_news (intsAt_below h' ((Below.refl _ _).alloc (Nat.le_refl _) _))) (ints_oneCell _ _) (by unfold maxLen; omega) (by omega) (by simp) ?_
    intro v' w1 hown hgrow hnn
    obtain ⟨g, cap', rfl, hg, hO, hB⟩ := copied_own hown hgrow hnn
    exact hK g cap' w1 hg hO hB
end Go.Proofs.YthhpgbhgijlcpaaDoor.rows
