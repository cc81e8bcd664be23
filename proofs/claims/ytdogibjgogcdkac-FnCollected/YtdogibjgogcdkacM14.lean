/-
  A drawn region whose operations may be guarded, by one fact a slot, under a relation between worlds of one's own: each operation that comes up is wanted and keeps its fact, or is not wanted and its slot is empty. Chapter 1 as the specification has it: is a number in a list, and a number into a list that rises. Chapter 1 as the specification has it: a number into a list that rises. Chapter 7 as the specification has it: what is reached, round by round. Chapter 7: what the specification's collecting needs of lists: a slot at a time, for weak ones and others. Chapter 7: what the law FnLeast lists: all that is led to by roots, mourned and those that are reached; it is just what is reached.
-/
import Derived.Test.YtdogibjgogcdkacM11
import Derived.Tactics
import Derived.Test.YtdogibjgogcdkacM7
import Derived.Test.YtdogibjgogcdkacM10
import Derived.Maps.AppendAt
import Derived.Test.YtdogibjgogcdkacM4
import Derived.Deep.RegionLaw
import Derived.Deep.Cut
import Derived.Deep.CutRange
namespace Go.Proofs.Ytdogibjgogcdkac.region
open Go Go.RowKit

theorem wp_region_guarded {P : Program} {id : Nat} {ops : Array Oper} {Q : Exit → Act → World → Prop} {a0 : Act} {w : World} (hm : P.follows .mixedOrders = true) (D : Nat → Bool) (R : World → World → Prop) (Rtr : ∀ a b c, R a b → R b c → R a c) (Rdr : R w w.drew)
    (hacyc : ∀ (k : Nat) (o : Oper), ops[k]? = some o → ∀ e ∈ o.after, e.on < k) (n : Nat) (hn : ops.size = n) (dst : Nat → Nat) (hinj : ∀ k, k < n → ∀ j, j < n → dst j = dst k → j = k)
    (F : Nat → Value → World → Prop) (hst : ∀ k t W W', R W W' → F k t W → F k t W')
    (step : ∀ k o u W, k < n → ops[k]? = some o → R w W → (∀ j, j < n → (∃ e ∈ o.after, e.on = j ∧ Region.binds .any e = true) → F j (u (dst j)) W) →
      (Region.wanted o (yielded ops (ovr D a0 u).tmps) = true ∧ o.wp P (ovr D a0 u) W (fun a' W' => ∃ v, a' = ovr D a0 (upd u (dst k) v) ∧ R W W' ∧ F k v W') Q) ∨
      (Region.wanted o (yielded ops (ovr D a0 u).tmps) = false ∧ o.dst = some (dst k) ∧ D (dst k) = true ∧ F k undef W))
    (fin : ∀ u W, R w W → (∀ j, j < n → F j (u (dst j)) W) → Q .normal (ovr D a0 u) W) :
    (Code.region id ops true).wp P Q a0 w := by
  refine wp_region_inv hm (fun l a W => l.size = ops.size ∧ ∃ u, a = ovr D a0 u ∧ R w W ∧ ∀ k, k < n → l.getD k false = true → F k (u (dst k)) W) ⟨by simp, _, (ovr_self D a0).symm, Rdr, fun k hk h => ?_⟩ ?_ ?_
  · simp [Array.getD, hn, hk] at h
  · rintro l a W ⟨hl, u, rfl, hB, hF⟩ hr
    have hA := all_listed hacyc hl hr
    exact fin u W hB fun j hj => hF j hj (hA j (by omega))
  · rintro l a W i ⟨hl, u, rfl, hB, hF⟩ hi
    obtain ⟨h1, o, ho, hd⟩ := mem_ready.1 hi
    have hi' : i < n := by rw [← hn]; exact (Array.getElem?_eq_some_iff.1 ho).1
    unfold wpOp
    rw [ho]
    simp only
    rcases step i o u W hi' ho hB (fun j hj ⟨e, he, e1, hb⟩ => hF j hj (by rw [← e1]; exact hd e he hb)) with ⟨hw, h⟩ | ⟨hw, hds, hD, h⟩
    · rw [if_pos hw]
      refine .inl (Oper.wp_mono (fun a' W' h' => ?_) h)
      obtain ⟨v, rfl, hR, hv⟩ := h'
      exact ⟨by simpa using hl, _, rfl, Rtr _ _ _ hB hR, facts_put (dst := dst) (hinj i hi') hF (fun j _ _ _ t => hst j t W W' hR) hv⟩
    · rw [if_neg (by rw [hw]; simp)]
      refine ⟨by simpa using hl, upd u (dst i) undef, ?_, hB, facts_put (dst := dst) (hinj i hi') hF (fun j _ _ _ t ht => ht) h⟩
      rw [hds]
      exact ovr_put hD
/-- An operation with no guard is wanted. -/
theorem wanted_none {ops : Array Oper} {o : Oper} {t : Array Value} (h : o.guard = none) : Region.wanted o (yielded ops t) = true := by simp [Region.wanted, h]
/-- A guarded one is wanted where the slot of its guard holds what it asks for. -/
theorem wanted_some {ops : Array Oper} {o og : Oper} {D : Nat → Bool} {a0 : Act} {u : Nat → Value} {g d : Nat} {b c : Bool} (h : o.guard = some (g, b)) (hg : ops[g]? = some og) (hd : og.dst = some d) (hD : D d = true) (hs : d < a0.tmps.size) (hu : u d = .bool c) : Region.wanted o (yielded ops (ovr D a0 u).tmps) = (c == b) := by
  have hy : yielded ops (ovr D a0 u).tmps g = some c := by
    unfold yielded
    rw [hg]
    simp only [Option.bind_some, hd]
    rw [ovr_at D a0 u d hs, hD, if_pos rfl, hu]
  simp only [Region.wanted, h, hy]
  cases b <;> cases c <;> rfl
/-- .. and is not, where the guard itself was not. -/
theorem wanted_undef {ops : Array Oper} {o og : Oper} {D : Nat → Bool} {a0 : Act} {u : Nat → Value} {g d : Nat} {b : Bool} (h : o.guard = some (g, b)) (hg : ops[g]? = some og) (hd : og.dst = some d) (hD : D d = true) (hs : d < a0.tmps.size) (hu : u d = undef) : Region.wanted o (yielded ops (ovr D a0 u).tmps) = false := by
  have hy : yielded ops (ovr D a0 u).tmps g = none := by
    unfold yielded
    rw [hg]
    simp only [Option.bind_some, hd]
    rw [ovr_at D a0 u d hs, hD, if_pos rfl, hu]
    rfl
  simp only [Region.wanted, h, hy]
  cases b <;> rfl

/-- The same of a region that is run in the order of its text. -/
theorem wp_region_seq {P : Program} {id : Nat} {ops : Array Oper} {Q : Exit → Act → World → Prop} {a0 : Act} {w : World} (D : Nat → Bool) (R : World → World → Prop) (Rtr : ∀ a b c, R a b → R b c → R a c) (Rrf : R w w)
    (n : Nat) (hn : ops.size = n) (dst : Nat → Nat) (hinj : ∀ k, k < n → ∀ j, j < n → dst j = dst k → j = k)
    (F : Nat → Value → World → Prop) (hst : ∀ k t W W', R W W' → F k t W → F k t W')
    (step : ∀ k o u W, k < n → ops[k]? = some o → R w W → (∀ j, j < k → F j (u (dst j)) W) →
      (Region.wanted o (yielded ops (ovr D a0 u).tmps) = true ∧ o.wp P (ovr D a0 u) W (fun a' W' => ∃ v, a' = ovr D a0 (upd u (dst k) v) ∧ R W W' ∧ F k v W') Q) ∨
      (Region.wanted o (yielded ops (ovr D a0 u).tmps) = false ∧ o.dst = some (dst k) ∧ D (dst k) = true ∧ F k undef W))
    (fin : ∀ u W, R w W → (∀ j, j < n → F j (u (dst j)) W) → Q .normal (ovr D a0 u) W) :
    (Code.region id ops false).wp P Q a0 w := by
  have put : ∀ (k : Nat) (u : Nat → Value) (v : Value) (W W' : World), k < n → (∀ j, j < k → F j (u (dst j)) W) → (∀ j t, F j t W → F j t W') → F k v W' → ∀ j, j < k + 1 → F j (upd u (dst k) v (dst j)) W' := by
    intro k u v W W' hk hF hs hv j hj
    by_cases e : j = k
    · subst e
      simp only [upd, if_true]
      exact hv
    · have : ¬ dst j = dst k := fun e' => e (hinj k hk j (by omega) e')
      simp only [upd, this, if_false]
      exact hs j _ (hF j (by omega))
  have main : ∀ (l : List Oper) (k : Nat) (u : Nat → Value) (W : World), ops.toList.drop k = l → k ≤ n → R w W → (∀ j, j < k → F j (u (dst j)) W) → wpList P ops Q l (ovr D a0 u) W := by
    intro l
    induction l with
    | nil =>
      intro k u W hl hk hR hF
      have : n ≤ k := by
        have := congrArg List.length hl
        simp at this
        omega
      exact fin u W hR fun j hj => hF j (by omega)
    | cons o l ih =>
      intro k u W hl hk hR hF
      have hk' : k < n := by
        have := congrArg List.length hl
        simp at this
        omega
      have ho : ops[k]? = some o := by
        have h0 := congrArg (fun l => l[0]?) hl
        simpa using h0
      have hl' : ops.toList.drop (k + 1) = l := by
        have h0 := congrArg List.tail hl
        simpa using h0
      rcases step k o u W hk' ho hR hF with ⟨hw, h⟩ | ⟨hw, hds, hD, h⟩
      · show if _ then _ else _
        rw [if_pos hw]
        refine .inl (Oper.wp_mono (fun a' W' h' => ?_) h)
        obtain ⟨v, rfl, hR', hv⟩ := h'
        exact ih (k + 1) _ W' hl' hk' (Rtr _ _ _ hR hR') (put k u v W W' hk' hF (fun j t => hst j t W W' hR') hv)
      · show if _ then _ else _
        rw [if_neg (by rw [hw]; simp), hds, ovr_put hD]
        exact ih (k + 1) _ W hl' hk' hR (put k u undef W W hk' hF (fun _ _ h => h) h)
  refine wp_region_list ?_
  have := main ops.toList 0 (fun s => a0.tmps.getD s undef) w (by simp) (Nat.zero_le _) Rrf (fun j hj => by omega)
  rwa [ovr_self] at this
end Go.Proofs.Ytdogibjgogcdkac.region
namespace Go.Proofs.Ytdogibjgogcdkac.gr
open Go.RowKit rows heads
set_option maxRecDepth 100000
set_option linter.unusedVariables false

set_option maxHeartbeats 4000000 in
theorem l1Has_any {w : World} {v : Value} {xs : List Int} (h : IntsAt w v xs) (hl : xs.length ≤ 1048576) (n : Int) :
    Calls Try.prog 67 #[v, .int .i64 n] w fun e w' => e = .returned (.bool (decide (n ∈ xs))) ∧ w' = w := by
  obtain ⟨a, cap, rfl, hlc, hcm, _, hc⟩ := h
  have HC : Hid _ := hc
  obtain ⟨RV, hRV⟩ : ∃ RV, decide (n ∈ xs) = RV := ⟨_, rfl⟩
  rw [hRV]
  have HRV : Hid _ := hRV
  clear hc hRV
  go_enter Try.func67, Try.ntmps67
  go_wp2_with fail
  go_loopw [5] (fun p wr => ∃ k : Nat, k ≤ xs.length ∧ p = .int .i64 k ∧ (∀ j, j < k → ¬ xs.getD j 0 = n) ∧ wr = w) (fun p _ => xs.length - (intOf p).toNat)
  case atStart => exact ⟨0, Nat.zero_le _, rfl, fun j hj => by omega, rfl⟩
  case round =>
    obtain ⟨k, hk, rfl, hne, hw⟩ := hrel
    subst hw
    by_cases hlt : k < xs.length
    · obtain ⟨b, off, rfl, hb, hcc⟩ := HC.out (by omega)
      have c0 := hcc k hlt
      have hget : xs.getD k 0 ∈ xs := by
        rw [List.getD_eq_getElem?_getD, List.getElem?_eq_getElem hlt]
        exact List.getElem_mem hlt
      by_cases hy : xs.getD k 0 = n
      · have HV : Hid (RV = true) := by show _ = _; rw [← HRV.out, decide_eq_true_eq, ← hy]; exact hget
        have hy' : (xs.getD k 0 == n) = true := by simpa using hy
        clear hcc HC hne hget hy
        generalize xs.getD k 0 = y at *
        go_wp2
        go_ret
        exact ⟨by rw [HV.out]; rfl, rfl⟩
      · have HV : Hid (∀ j, j < k + 1 → ¬ xs.getD j 0 = n) := fun j hj => by
          by_cases e : j = k
          · rw [e]; exact hy
          · exact hne j (by omega)
        have hy' : (xs.getD k 0 == n) = false := by simpa using hy
        clear hcc HC hne hget hy
        generalize xs.getD k 0 = y at *
        go_wp2
        exact ⟨⟨k + 1, by omega, by go_num, HV, by trivial⟩, by simp [intOf]; omega⟩
    · have HV : Hid (RV = false) := by
        show _ = _
        rw [← HRV.out, decide_eq_false_iff_not]
        intro hm
        obtain ⟨i, hi, e⟩ := List.getElem_of_mem hm
        refine hne i (by omega) ?_
        rw [List.getD_eq_getElem?_getD, List.getElem?_eq_getElem hi]
        exact e
      clear HC hne HRV
      go_wp2
      go_ret
      exact ⟨by rw [HV.out]; rfl, rfl⟩

theorem ints_take {w : World} {a : Option Addr} {n cap k : Nat} {xs : List Int} (h : IntsAt w (.slice a n cap) xs) (hk : k ≤ n) : IntsAt w (.slice a k cap) (xs.take k) := by
  obtain ⟨a0, cap0, e, h1, h2, h3, h4⟩ := h
  injection e with e1 e2 e3
  subst e1 e2 e3
  refine ⟨a, cap, by rw [List.length_take, Nat.min_eq_left hk], ?_, h2, h3, fun hp => ?_⟩
  · rw [List.length_take]; omega
  · rw [List.length_take] at hp
    obtain ⟨b, off, e, hb, hc⟩ := h4 (by omega)
    refine ⟨b, off, e, hb, fun i hi => ?_⟩
    rw [List.length_take] at hi
    rw [hc i (by omega), List.getD_eq_getElem?_getD, List.getD_eq_getElem?_getD, List.getElem?_take_of_lt (by omega)]
theorem ints_drop {w : World} {b off n cap k : Nat} {xs : List Int} (h : IntsAt w (.slice (some ⟨b, off, none⟩) n cap) xs) (hk : k ≤ n) {a : Option Addr} (ha : k < n → a = some ⟨b, off + k, none⟩) (hz : a = none → cap - k = 0) : IntsAt w (.slice a (n - k) (cap - k)) (xs.drop k) := by
  obtain ⟨a0, cap0, e, h1, h2, h3, h4⟩ := h
  injection e with e1 e2 e3
  subst e1 e2 e3
  refine ⟨a, cap - k, by rw [List.length_drop], ?_, Nat.le_trans (Nat.sub_le _ _) h2, hz, fun hp => ?_⟩
  · rw [List.length_drop]; omega
  · rw [List.length_drop] at hp
    obtain ⟨b', off', e, hb, hc⟩ := h4 (by omega)
    injection e with e
    injection e with e1 e2
    subst e1 e2
    refine ⟨b, off + k, ha (by omega), hb, fun i hi => ?_⟩
    rw [List.length_drop] at hi
    rw [Nat.add_assoc, hc (k + i) (by omega), List.getD_eq_getElem?_getD, List.getD_eq_getElem?_getD, List.getElem?_drop]
/-- 'append([]int64{}, list...)', how many there are under a name of its own. -/
theorem wpList_copiedN {w : World} {ops : Array Oper} {rest : List Oper} {o : Oper} {act : Act} {Q : Exit → Act → World → Prop} {a : Option Addr} {n cap : Nat} {xs : List Int}
    (h : IntsAt w (.slice a n cap) xs) (hl : n ≤ 1048576) (hgd : o.guard = none) (s x : Operand) (ho : o.op = .call { callee := .builtin .append, args := #[s, x], argTypes := #[32, 32] })
    (hs : act.eval s = .slice (some ⟨w.heap.size, 0, none⟩) 0 0) (hx : act.eval x = .slice a n cap)
    (hK : ∀ g cap' w1, w.heap.size ≤ g → w1.ownsRow w.heap.size 2 1 (.slice (some ⟨g, 0, none⟩) n cap') n (cellsOf xs) → Below w.heap.size w w1 → wpList Try.prog ops Q rest (act.put o.dst (.slice (some ⟨g, 0, none⟩) n cap')) w1) :
    wpList Try.prog ops Q (o :: rest) act (w.alloc (.cells #[] 2)) := by
  have e : xs.length = n := by
    obtain ⟨a', c', e, _⟩ := h
    injection e with _ e _
    exact e.symm
  subst e
  exact wpList_copied h hl hgd s x ho hs hx hK
end Go.Proofs.Ytdogibjgogcdkac.gr
namespace Go.Proofs.Ytdogibjgogcdkac.gr
open Go.RowKit rows heads
set_option maxRecDepth 100000
set_option linter.unusedVariables false

theorem own_put {w : World} {base m : Nat} {v : Value} {T D R : List Int} {n : Int} (e : R = T ++ n :: D) (hm : (T ++ n :: D).length = m) (h : w.ownsRow base 2 1 v m ((cellsOf T ++ [.int .i64 n]) ++ cellsOf D)) : Own w base v R := by
  subst e hm
  unfold Own
  have e : cellsOf (T ++ n :: D) = (cellsOf T ++ [.int .i64 n]) ++ cellsOf D := by simp [cellsOf]
  rw [e]
  exact h
theorem row_base {w : World} {base base' n : Nat} {t : TypeId} {v : Value} {cs : List Value} (h : w.ownsRow base t 1 v n cs) (hb : base' ≤ base) : w.ownsRow base' t 1 v n cs := by
  obtain ⟨h0, ⟨h1, h2⟩ | ⟨g, cap, cur, h1, hg, hh⟩⟩ := h
  · exact ⟨h0, .inl ⟨h1, h2⟩⟩
  · exact ⟨h0, .inr ⟨g, cap, cur, h1, Nat.le_trans hb hg, hh⟩⟩
theorem row_slice {w : World} {base n : Nat} {t : TypeId} {v : Value} {xs : List Value} (h : w.ownsRow base t 1 v n xs) : ∃ a c, v = .slice a n c := by
  obtain ⟨h0, ⟨h1, h2⟩ | ⟨g, cap, cur, h1, _⟩⟩ := h
  · exact ⟨none, 0, by rw [h1, h2]⟩
  · exact ⟨_, _, h1⟩
theorem num_new (W : World) (t : TypeId) (x : Int) : ∀ j u, [Value.int .i64 x][j]? = some u → (W.alloc (.cells #[.int .i64 x] t)).cell? ((⟨W.heap.size, 0, none⟩ : Addr).add j) = some u := by
  intro j u h
  match j with
  | 0 =>
    simp at h
    subst h
    simp [Addr.add]
  | j + 1 => simp at h
/-- Behind an append onto a row from B on. -/
theorem below_app {B : Nat} {w W w' : World} {v : Value} {n : Nat} {t : TypeId} {cs : List Value} (h : Below B w W) (hr : W.ownsRow B t 1 v n cs) (hB : B ≤ W.heap.size) (hg : W.grownBy w' v.ownBlock) : Below B w w' :=
  h.trans (below_ch (ch_grown hg) hB (fun k hk => (blk_lt hr k hk).1))

set_option maxHeartbeats 8000000 in
theorem l1Put_any {w : World} {base : Nat} {v : Value} {xs : List Int} (h : Own w base v xs) (hb : base ≤ w.heap.size) (hl : xs.length ≤ 1000000) (n : Int) :
    Calls Try.prog 106 #[v, .int .i64 n] w fun e w' => ∃ v', e = .returned v' ∧ Own w' base v' (putI n xs) ∧ Below w.heap.size w w' := by
  have hI := own_ints h
  have HO : Hid _ := h
  have HI : Hid _ := hI
  obtain ⟨a, cap, rfl, hlc, hcm, hnil, hc⟩ := hI
  have HC : Hid _ := hc
  have hcb : cap ≤ 9223372036854775807 := hcm
  obtain ⟨i0, hi0, hz0, hz1, hz2⟩ := info_parts info
  have HI0 : Hid _ := hi0
  have HZ0 : Hid _ := hz0
  have HZ1 : Hid _ := hz1
  have HZ2 : Hid _ := hz2
  obtain ⟨RX, hRX⟩ : ∃ RX, putI n xs = RX := ⟨_, rfl⟩
  rw [hRX]
  have HRX : Hid _ := hRX
  clear hc h hi0 hz0 hz1 hz2 hRX
  go_enter Try.func106, Try.ntmps106
  go_wp2_with fail
  go_loopw [5] (fun p wr => ∃ k : Nat, k ≤ xs.length ∧ p = .int .i64 k ∧ (∀ j, j < k → xs.getD j 0 < n) ∧ wr = w) (fun p _ => xs.length - (intOf p).toNat)
  case atStart => exact ⟨0, Nat.zero_le _, rfl, fun j hj => by omega, rfl⟩
  case round =>
    obtain ⟨k, hk, rfl, hall, hw⟩ := hrel
    subst hw
    by_cases hgo : k < xs.length ∧ xs.getD k 0 < n
    · obtain ⟨hlt, hy⟩ := hgo
      obtain ⟨b, off, rfl, _, hcc⟩ := HC.out (by omega)
      have c0 := hcc k hlt
      have HV : Hid (∀ j, j < k + 1 → xs.getD j 0 < n) := fun j hj => by
        by_cases e : j = k
        · rw [e]; exact hy
        · exact hall j (by omega)
      clear hcc HC hall
      generalize xs.getD k 0 = y at *
      go_wp2
      exact ⟨⟨k + 1, by omega, by go_num, HV, by trivial⟩, by simp [intOf]; omega⟩
    · have hput := putI_at hk hall (fun h1 h2 => hgo ⟨h1, h2⟩)
      by_cases heq : k < xs.length ∧ xs.getD k 0 = n
      · obtain ⟨hlt, hy⟩ := heq
        obtain ⟨b, off, rfl, _, hcc⟩ := HC.out (by omega)
        have c0 := hcc k hlt
        rw [hy] at c0
        rw [if_pos ⟨hlt, hy⟩] at hput
        have HF : Hid (RX = xs) := HRX.out.symm.trans hput
        have hnn : (n == n) = true := by simp
        have hn2 : ¬ n < n := by omega
        clear hcc HC hall hput hgo hy
        go_wp2
        go_ret
        exact ⟨_, rfl, by rw [HF.out]; exact HO.out, Below.refl _ _⟩
      · rw [if_neg heq] at hput
        have HF : Hid _ := HRX.out.symm.trans hput
        have hmin : min k xs.length = k := by omega
        by_cases hlt : k < xs.length
        · obtain ⟨b, off, rfl, _, hcc⟩ := HC.out (by omega)
          have c0 := hcc k hlt
          have hy1 : ¬ xs.getD k 0 < n := fun e => hgo ⟨hlt, e⟩
          have hy2 : (xs.getD k 0 == n) = false := by
            have : ¬ xs.getD k 0 = n := fun e => heq ⟨hlt, e⟩
            simpa using this
          have hck : ¬ cap = k := by omega
          have HP1 : Hid (IntsAt wr (.slice (some ⟨b, off + k, none⟩) (xs.length - k) (cap - k)) (xs.drop k)) := ints_drop HI.out hk (fun _ => rfl) (fun e => by cases e)
          have HP2 : Hid (IntsAt wr (.slice (some ⟨b, off, none⟩) k cap) (xs.take k)) := ints_take HI.out hk
          clear hcc HC hall hput hgo heq
          generalize xs.getD k 0 = y at *
          go_wp2_with (first
            | (refine wpList_copiedN (a := (some ⟨b, off + k, none⟩)) (n := (xs.length - k)) (cap := (cap - k)) (xs := (xs.drop k)) HP1.out (by omega) rfl (.tmp 34) (.tmp 37) rfl rfl rfl ?_; intro g1 cap1 w1 hg1 hO1 hB1; have HR1 : Hid (IntsAt w1 (.slice (some ⟨g1, 0, none⟩) (xs.length - k) cap1) (xs.drop k)) := own_ints (own_row hO1 (by simp)); have HP3 : Hid (IntsAt w1 (.slice (some ⟨b, off, none⟩) k cap) (xs.take k)) := intsAt_below HP2.out hB1; have HB1 : Hid _ := hB1; have sz1 := hB1.size; clear hO1 hB1 hg1)
            | (refine wpList_copiedN (a := (some ⟨b, off, none⟩)) (n := k) (cap := cap) (xs := (xs.take k)) HP3.out (by omega) rfl (.tmp 39) (.tmp 42) rfl rfl rfl ?_; intro g2 cap2 w2 hg2 hO2 hB2; have HO2 : Hid ((w2.alloc (.cells #[.int .i64 n] 2)).ownsRow w1.heap.size 2 1 (.slice (some ⟨g2, 0, none⟩) k cap2) k (cellsOf (xs.take k))) := row_below hO2 ((Below.refl _ _).alloc (Nat.le_refl _) (.cells #[.int .i64 n] 2)); have HB2 : Hid (Below w1.heap.size w1 (w2.alloc (.cells #[.int .i64 n] 2))) := hB2.alloc hB2.size _; have sz2 := hB2.size; have sz2' : w1.heap.size ≤ (w2.alloc (.cells #[.int .i64 n] 2)).heap.size := HB2.out.size; have HNW : Hid _ := num_new w2 2 n; clear hO2 hB2 hg2)
            | (refine wpList_append_own_at _ rfl (.tmp 43) (.tmp 45) 32 rfl w1.heap.size 2 i0 (.int .i64 0) 1 8 Try.underlying32 HI0.out HZ0.out HZ1.out HZ2.out rfl (by decide) (.slice (some ⟨g2, 0, none⟩) k cap2) k (cellsOf (xs.take k)) rfl HO2.out ⟨w2.heap.size, 0, none⟩ 1 1 [.int .i64 n] rfl rfl HNW.out (by simp [Value.oneCell']) (by unfold maxLen; omega) (by omega) sz2' ?_; intro v3 w3 hO3 hg3 _ hat3; obtain ⟨a3, c3, rfl⟩ := row_slice hO3; have B3 := below_app HB2.out HO2.out sz2' hg3; have HO3 : Hid (w3.ownsRow w1.heap.size 2 1 (.slice a3 (k + 1) c3) (k + 1) (cellsOf (xs.take k) ++ [.int .i64 n])) := hO3; have HB3 : Hid _ := B3; have sz3 := B3.size; have IR3 := intsAt_below HR1.out B3; have HNW3 : Hid _ := ints_news IR3; clear hO3 hg3 hat3 B3 IR3)
            | (refine wpList_append_own_at _ rfl (.tmp 46) (.tmp 47) 32 rfl w1.heap.size 2 i0 (.int .i64 0) 1 8 Try.underlying32 HI0.out HZ0.out HZ1.out HZ2.out rfl (by decide) (.slice a3 (k + 1) c3) (k + 1) (cellsOf (xs.take k) ++ [.int .i64 n]) rfl HO3.out ⟨g1, 0, none⟩ ((xs.length - k)) cap1 (cellsOf (xs.drop k)) rfl (by simp) HNW3.out (ints_oneCell _ _) (by unfold maxLen; omega) (by omega) sz3 ?_; intro v4 w4 hO4 hg4 _ hat4; obtain ⟨a4, c4, rfl⟩ := row_slice hO4; have B4 := below_app HB3.out HO3.out sz3 hg4; have HFB : Hid (Below wr.heap.size wr w4) := HB1.out.trans (B4.mono sz1); have HFO : Hid (Own w4 base (.slice a4 (k + 1 + ((xs.length - k))) c4) RX) := own_put HF.out (by simp <;> omega) (row_base hO4 (Nat.le_trans hb sz1)); clear hO4 hg4 hat4 B4))
          go_ret
          exact ⟨_, rfl, HFO.out, HFB.out⟩
        · have ek : k = xs.length := by omega
          have hd : xs.drop k = [] := List.drop_eq_nil_of_le (by omega)
          have ht : xs.take k = xs := List.take_of_length_le (by omega)
          have HFN : Hid (RX = xs ++ n :: []) := by
            have := HF.out
            rw [hd, ht] at this
            exact this
          clear HF
          have HF : Hid (RX = xs ++ n :: []) := HFN.out
          clear HFN
          have HQ1 : Hid (IntsAt wr (.slice none 0 0) []) := ⟨none, 0, rfl, Nat.le_refl _, by decide, fun _ => rfl, fun h => absurd h (by simp)⟩
          cases a with
          | none =>
            have hc0 := hnil rfl
            have hx0 : xs = [] := List.eq_nil_of_length_eq_zero (by omega)
            subst hc0 hx0
            obtain rfl : k = 0 := by simpa using ek
            have HP1 : Hid (IntsAt wr (.slice none 0 0) []) := HQ1.out
            have HP2 : Hid (IntsAt wr (.slice none 0 0) []) := HQ1.out
            clear HC hall hput hgo heq hmin hd ht ek HQ1
            go_wp2_with (first
              | (refine wpList_copiedN (a := none) (n := 0) (cap := 0) (xs := ([] : List Int)) HP1.out (by omega) rfl (.tmp 34) (.tmp 37) rfl rfl rfl ?_; intro g1 cap1 w1 hg1 hO1 hB1; have HR1 : Hid (IntsAt w1 (.slice (some ⟨g1, 0, none⟩) 0 cap1) ([] : List Int)) := own_ints (own_row hO1 (by simp)); have HP3 : Hid (IntsAt w1 (.slice none 0 0) ([] : List Int)) := intsAt_below HP2.out hB1; have HB1 : Hid _ := hB1; have sz1 := hB1.size; clear hO1 hB1 hg1)
              | (refine wpList_copiedN (a := none) (n := 0) (cap := 0) (xs := ([] : List Int)) HP3.out (by omega) rfl (.tmp 39) (.tmp 42) rfl rfl rfl ?_; intro g2 cap2 w2 hg2 hO2 hB2; have HO2 : Hid ((w2.alloc (.cells #[.int .i64 n] 2)).ownsRow w1.heap.size 2 1 (.slice (some ⟨g2, 0, none⟩) 0 cap2) 0 (cellsOf ([] : List Int))) := row_below hO2 ((Below.refl _ _).alloc (Nat.le_refl _) (.cells #[.int .i64 n] 2)); have HB2 : Hid (Below w1.heap.size w1 (w2.alloc (.cells #[.int .i64 n] 2))) := hB2.alloc hB2.size _; have sz2 := hB2.size; have sz2' : w1.heap.size ≤ (w2.alloc (.cells #[.int .i64 n] 2)).heap.size := HB2.out.size; have HNW : Hid _ := num_new w2 2 n; clear hO2 hB2 hg2)
              | (refine wpList_append_own_at _ rfl (.tmp 43) (.tmp 45) 32 rfl w1.heap.size 2 i0 (.int .i64 0) 1 8 Try.underlying32 HI0.out HZ0.out HZ1.out HZ2.out rfl (by decide) (.slice (some ⟨g2, 0, none⟩) 0 cap2) 0 (cellsOf ([] : List Int)) rfl HO2.out ⟨w2.heap.size, 0, none⟩ 1 1 [.int .i64 n] rfl rfl HNW.out (by simp [Value.oneCell']) (by unfold maxLen; omega) (by omega) sz2' ?_; intro v3 w3 hO3 hg3 _ hat3; obtain ⟨a3, c3, rfl⟩ := row_slice hO3; have B3 := below_app HB2.out HO2.out sz2' hg3; have HO3 : Hid (w3.ownsRow w1.heap.size 2 1 (.slice a3 (0 + 1) c3) (0 + 1) (cellsOf ([] : List Int) ++ [.int .i64 n])) := hO3; have HB3 : Hid _ := B3; have sz3 := B3.size; have IR3 := intsAt_below HR1.out B3; have HNW3 : Hid _ := ints_news IR3; clear hO3 hg3 hat3 B3 IR3)
              | (refine wpList_append_own_at _ rfl (.tmp 46) (.tmp 47) 32 rfl w1.heap.size 2 i0 (.int .i64 0) 1 8 Try.underlying32 HI0.out HZ0.out HZ1.out HZ2.out rfl (by decide) (.slice a3 (0 + 1) c3) (0 + 1) (cellsOf ([] : List Int) ++ [.int .i64 n]) rfl HO3.out ⟨g1, 0, none⟩ (0) cap1 (cellsOf ([] : List Int)) rfl (by simp) HNW3.out (ints_oneCell _ _) (by unfold maxLen; omega) (by omega) sz3 ?_; intro v4 w4 hO4 hg4 _ hat4; obtain ⟨a4, c4, rfl⟩ := row_slice hO4; have B4 := below_app HB3.out HO3.out sz3 hg4; have HFB : Hid (Below wr.heap.size wr w4) := HB1.out.trans (B4.mono sz1); have HFO : Hid (Own w4 base (.slice a4 (0 + 1 + (0)) c4) RX) := own_put HF.out (by simp <;> omega) (row_base hO4 (Nat.le_trans hb sz1)); clear hO4 hg4 hat4 B4))
            go_ret
            exact ⟨_, rfl, HFO.out, HFB.out⟩
          | some ad =>
            obtain ⟨g0, hg0⟩ : ∃ g0, ad = ⟨g0, 0, none⟩ := by
              obtain ⟨_, ⟨h1, _⟩ | ⟨g, c', cur, h1, _⟩⟩ := HO.out
              · cases h1
              · injection h1 with h1
                injection h1 with h1
                exact ⟨g, h1⟩
            subst hg0 ek
            have HP2 : Hid (IntsAt wr (.slice (some ⟨g0, 0, none⟩) xs.length cap) xs) := HI.out
            by_cases hck : cap = xs.length
            · subst hck
              have HP1 : Hid (IntsAt wr (.slice (some ⟨g0, 0, none⟩) 0 0) []) := ⟨_, 0, rfl, Nat.le_refl _, by decide, fun e => (by cases e), fun h => absurd h (by simp)⟩
              clear HC hall hput hgo heq hmin hd ht HQ1
              go_wp2_with (first
                | (refine wpList_copiedN (a := (some ⟨g0, 0, none⟩)) (n := 0) (cap := 0) (xs := ([] : List Int)) HP1.out (by omega) rfl (.tmp 34) (.tmp 37) rfl rfl rfl ?_; intro g1 cap1 w1 hg1 hO1 hB1; have HR1 : Hid (IntsAt w1 (.slice (some ⟨g1, 0, none⟩) 0 cap1) ([] : List Int)) := own_ints (own_row hO1 (by simp)); have HP3 : Hid (IntsAt w1 (.slice (some ⟨g0, 0, none⟩) xs.length xs.length) xs) := intsAt_below HP2.out hB1; have HB1 : Hid _ := hB1; have sz1 := hB1.size; clear hO1 hB1 hg1)
                | (refine wpList_copiedN (a := (some ⟨g0, 0, none⟩)) (n := xs.length) (cap := xs.length) (xs := xs) HP3.out (by omega) rfl (.tmp 39) (.tmp 42) rfl rfl rfl ?_; intro g2 cap2 w2 hg2 hO2 hB2; have HO2 : Hid ((w2.alloc (.cells #[.int .i64 n] 2)).ownsRow w1.heap.size 2 1 (.slice (some ⟨g2, 0, none⟩) xs.length cap2) xs.length (cellsOf xs)) := row_below hO2 ((Below.refl _ _).alloc (Nat.le_refl _) (.cells #[.int .i64 n] 2)); have HB2 : Hid (Below w1.heap.size w1 (w2.alloc (.cells #[.int .i64 n] 2))) := hB2.alloc hB2.size _; have sz2 := hB2.size; have sz2' : w1.heap.size ≤ (w2.alloc (.cells #[.int .i64 n] 2)).heap.size := HB2.out.size; have HNW : Hid _ := num_new w2 2 n; clear hO2 hB2 hg2)
                | (refine wpList_append_own_at _ rfl (.tmp 43) (.tmp 45) 32 rfl w1.heap.size 2 i0 (.int .i64 0) 1 8 Try.underlying32 HI0.out HZ0.out HZ1.out HZ2.out rfl (by decide) (.slice (some ⟨g2, 0, none⟩) xs.length cap2) xs.length (cellsOf xs) rfl HO2.out ⟨w2.heap.size, 0, none⟩ 1 1 [.int .i64 n] rfl rfl HNW.out (by simp [Value.oneCell']) (by unfold maxLen; omega) (by omega) sz2' ?_; intro v3 w3 hO3 hg3 _ hat3; obtain ⟨a3, c3, rfl⟩ := row_slice hO3; have B3 := below_app HB2.out HO2.out sz2' hg3; have HO3 : Hid (w3.ownsRow w1.heap.size 2 1 (.slice a3 (xs.length + 1) c3) (xs.length + 1) (cellsOf xs ++ [.int .i64 n])) := hO3; have HB3 : Hid _ := B3; have sz3 := B3.size; have IR3 := intsAt_below HR1.out B3; have HNW3 : Hid _ := ints_news IR3; clear hO3 hg3 hat3 B3 IR3)
                | (refine wpList_append_own_at _ rfl (.tmp 46) (.tmp 47) 32 rfl w1.heap.size 2 i0 (.int .i64 0) 1 8 Try.underlying32 HI0.out HZ0.out HZ1.out HZ2.out rfl (by decide) (.slice a3 (xs.length + 1) c3) (xs.length + 1) (cellsOf xs ++ [.int .i64 n]) rfl HO3.out ⟨g1, 0, none⟩ (0) cap1 (cellsOf ([] : List Int)) rfl (by simp) HNW3.out (ints_oneCell _ _) (by unfold maxLen; omega) (by omega) sz3 ?_; intro v4 w4 hO4 hg4 _ hat4; obtain ⟨a4, c4, rfl⟩ := row_slice hO4; have B4 := below_app HB3.out HO3.out sz3 hg4; have HFB : Hid (Below wr.heap.size wr w4) := HB1.out.trans (B4.mono sz1); have HFO : Hid (Own w4 base (.slice a4 (xs.length + 1 + (0)) c4) RX) := own_put HF.out (by simp <;> omega) (row_base hO4 (Nat.le_trans hb sz1)); clear hO4 hg4 hat4 B4))
              go_ret
              exact ⟨_, rfl, HFO.out, HFB.out⟩
            · have HP1 : Hid (IntsAt wr (.slice (some ⟨g0, xs.length, none⟩) 0 (cap - xs.length)) []) := ⟨_, _, rfl, Nat.zero_le _, Nat.le_trans (Nat.sub_le _ _) hcm, fun e => (by cases e), fun h => absurd h (by simp)⟩
              clear HC hall hput hgo heq hmin hd ht HQ1
              go_wp2_with (first
                | (refine wpList_copiedN (a := (some ⟨g0, xs.length, none⟩)) (n := 0) (cap := (cap - xs.length)) (xs := ([] : List Int)) HP1.out (by omega) rfl (.tmp 34) (.tmp 37) rfl rfl rfl ?_; intro g1 cap1 w1 hg1 hO1 hB1; have HR1 : Hid (IntsAt w1 (.slice (some ⟨g1, 0, none⟩) 0 cap1) ([] : List Int)) := own_ints (own_row hO1 (by simp)); have HP3 : Hid (IntsAt w1 (.slice (some ⟨g0, 0, none⟩) xs.length cap) xs) := intsAt_below HP2.out hB1; have HB1 : Hid _ := hB1; have sz1 := hB1.size; clear hO1 hB1 hg1)
                | (refine wpList_copiedN (a := (some ⟨g0, 0, none⟩)) (n := xs.length) (cap := cap) (xs := xs) HP3.out (by omega) rfl (.tmp 39) (.tmp 42) rfl rfl rfl ?_; intro g2 cap2 w2 hg2 hO2 hB2; have HO2 : Hid ((w2.alloc (.cells #[.int .i64 n] 2)).ownsRow w1.heap.size 2 1 (.slice (some ⟨g2, 0, none⟩) xs.length cap2) xs.length (cellsOf xs)) := row_below hO2 ((Below.refl _ _).alloc (Nat.le_refl _) (.cells #[.int .i64 n] 2)); have HB2 : Hid (Below w1.heap.size w1 (w2.alloc (.cells #[.int .i64 n] 2))) := hB2.alloc hB2.size _; have sz2 := hB2.size; have sz2' : w1.heap.size ≤ (w2.alloc (.cells #[.int .i64 n] 2)).heap.size := HB2.out.size; have HNW : Hid _ := num_new w2 2 n; clear hO2 hB2 hg2)
                | (refine wpList_append_own_at _ rfl (.tmp 43) (.tmp 45) 32 rfl w1.heap.size 2 i0 (.int .i64 0) 1 8 Try.underlying32 HI0.out HZ0.out HZ1.out HZ2.out rfl (by decide) (.slice (some ⟨g2, 0, none⟩) xs.length cap2) xs.length (cellsOf xs) rfl HO2.out ⟨w2.heap.size, 0, none⟩ 1 1 [.int .i64 n] rfl rfl HNW.out (by simp [Value.oneCell']) (by unfold maxLen; omega) (by omega) sz2' ?_; intro v3 w3 hO3 hg3 _ hat3; obtain ⟨a3, c3, rfl⟩ := row_slice hO3; have B3 := below_app HB2.out HO2.out sz2' hg3; have HO3 : Hid (w3.ownsRow w1.heap.size 2 1 (.slice a3 (xs.length + 1) c3) (xs.length + 1) (cellsOf xs ++ [.int .i64 n])) := hO3; have HB3 : Hid _ := B3; have sz3 := B3.size; have IR3 := intsAt_below HR1.out B3; have HNW3 : Hid _ := ints_news IR3; clear hO3 hg3 hat3 B3 IR3)
                | (refine wpList_append_own_at _ rfl (.tmp 46) (.tmp 47) 32 rfl w1.heap.size 2 i0 (.int .i64 0) 1 8 Try.underlying32 HI0.out HZ0.out HZ1.out HZ2.out rfl (by decide) (.slice a3 (xs.length + 1) c3) (xs.length + 1) (cellsOf xs ++ [.int .i64 n]) rfl HO3.out ⟨g1, 0, none⟩ (0) cap1 (cellsOf ([] : List Int)) rfl (by simp) HNW3.out (ints_oneCell _ _) (by unfold maxLen; omega) (by omega) sz3 ?_; intro v4 w4 hO4 hg4 _ hat4; obtain ⟨a4, c4, rfl⟩ := row_slice hO4; have B4 := below_app HB3.out HO3.out sz3 hg4; have HFB : Hid (Below wr.heap.size wr w4) := HB1.out.trans (B4.mono sz1); have HFO : Hid (Own w4 base (.slice a4 (xs.length + 1 + (0)) c4) RX) := own_put HF.out (by simp <;> omega) (row_base hO4 (Nat.le_trans hb sz1)); clear hO4 hg4 hat4 B4))
              go_ret
              exact ⟨_, rfl, HFO.out, HFB.out⟩
end Go.Proofs.Ytdogibjgogcdkac.gr
namespace Go.Proofs.Ytdogibjgogcdkac.gr
open Go.RowKit rows heads
set_option maxRecDepth 100000
set_option linter.unusedVariables false

/-- What these refs lead to is in the list. -/
def goesI (xs : List Int) (l : List Rf) : Prop := ∀ r ∈ l, r.1 = 2 → r.2 ∈ xs
theorem goesI_mono {xs ys : List Int} {l : List Rf} (h : goesI xs l) (hs : ∀ a ∈ xs, a ∈ ys) : goesI ys l := fun r hr h2 => hs _ (h r hr h2)
/-- A list of Ids that are reached. -/
structure Good (G : Gr) (xs : List Int) : Prop where
  rise : Rising xs
  sound : ∀ a ∈ xs, ∃ p, Rch G p ∧ (G.objs.getD p obD).id = a
theorem good_nil (G : Gr) : Good G [] := ⟨List.Pairwise.nil, fun a h => absurd h (by simp)⟩
theorem good_put {G : Gr} {xs : List Int} (h : Good G xs) {p : Nat} (hp : Rch G p) {n : Int} (hn : (G.objs.getD p obD).id = n) : Good G (putI n xs) :=
  ⟨rising_putI h.rise, fun a ha => by
    rcases mem_putI.1 ha with e | e
    · rw [e]; exact ⟨p, hp, hn⟩
    · exact h.sound a e⟩
theorem good_len {G : Gr} (hok : gOk G = true) {xs : List Int} (h : Good G xs) : xs.length ≤ 100000 := by
  have hn := (gOk_len hok).2.2.2
  have := rising_len (N := G.next) (m := 0) h.rise (fun x hx => by
    obtain ⟨p, hp, rfl⟩ := h.sound x hx
    have hlt := rch_lt hp
    obtain ⟨h1, h2, _⟩ := obOk_lt ((right_of hok).ob p hlt)
    have h3 : 0 ≤ lastOf G.objs p := by
      match p with
      | 0 => exact Int.le_refl _
      | p + 1 =>
        show 0 ≤ (G.objs.getD p obD).id
        have hpos : ∀ j, j < G.objs.length → 0 < (G.objs.getD j obD).id := fun j => by
          induction j with
          | zero => intro hj; have := (obOk_lt ((right_of hok).ob 0 hj)).1; exact this
          | succ j ih =>
            intro hj
            have h5 := (obOk_lt ((right_of hok).ob (j + 1) hj)).1
            have h6 := ih (by omega)
            have h7 : lastOf G.objs (j + 1) = (G.objs.getD j obD).id := rfl
            omega
        have := hpos p (by omega)
        omega
    omega)
  omega
/-- The place of an Id. -/
theorem right_ref {G : Gr} (hok : gOk G = true) {r : Rf} (hr : r ∈ G.roots ++ G.mourned ∨ ∃ p, p < G.objs.length ∧ r ∈ (G.objs.getD p obD).slots) (h2 : r.1 = 2) : ledB G.objs r = true ∧ (G.objs.getD (ledP G.objs r) obD).id = r.2 := by
  have R := right_of hok
  refine led_right ?_ h2
  rcases hr with h | ⟨p, hp, h⟩
  · rcases List.mem_append.1 h with h | h
    · obtain ⟨i, hi, rfl⟩ := List.getElem_of_mem h
      have h6 := (gOk_len hok).2.1
      have := R.root i (by omega)
      rw [List.getD_eq_getElem?_getD, List.getElem?_eq_getElem hi] at this
      exact this
    · obtain ⟨i, hi, rfl⟩ := List.getElem_of_mem h
      have := (R.mo i hi).2
      rw [List.getD_eq_getElem?_getD, List.getElem?_eq_getElem hi] at this
      exact this
  · obtain ⟨i, hi, rfl⟩ := List.getElem_of_mem h
    have := R.sl p hp i hi
    rw [List.getD_eq_getElem?_getD, List.getElem?_eq_getElem hi] at this
    exact this
theorem right_key {G : Gr} (hG : gOk G = true) {p : Nat} (hp : p < G.objs.length) (hf : (G.objs.getD p obD).fmt = 2) : 0 < (G.objs.getD p obD).slots.length ∧ (G.objs.getD p obD).slots.getD 0 refD ∈ (G.objs.getD p obD).slots := by
  have h := (obOk_lt ((right_of hG).ob p hp)).2.2.2
  rw [hf] at h
  simp only [hok] at h
  rw [if_neg (by decide)] at h
  simp only [Bool.and_eq_true, Bool.or_eq_true, decide_eq_true_eq, beq_iff_eq] at h
  have h1 : 0 < (G.objs.getD p obD).slots.length := by omega
  clear h hf
  revert h1
  generalize (G.objs.getD p obD).slots = sl
  intro h1
  refine ⟨h1, ?_⟩
  rw [List.getD_eq_getElem?_getD, List.getElem?_eq_getElem h1]
  exact List.getElem_mem h1
theorem onw_mem {o : Ob} {r : Rf} (h : r ∈ onw o) : r ∈ o.slots := by
  unfold onw at h
  split at h
  · exact h
  · split at h
    · exact List.mem_of_mem_drop h
    · simp at h
/-- Nothing is left to do of the object at k. -/
def DoneI (G : Gr) (xs : List Int) (k : Nat) : Prop := (G.objs.getD k obD).id ∈ xs → (awt G.objs (G.objs.getD k obD) = none → goesI xs (onw (G.objs.getD k obD))) ∧ ∀ q, awt G.objs (G.objs.getD k obD) = some q → (G.objs.getD q obD).id ∈ xs → goesI xs (onw (G.objs.getD k obD))
/-- Where nothing is left to do, all that is reached is there. -/
theorem good_all {G : Gr} (hG : gOk G = true) {xs : List Int} (h : Good G xs) (hr : goesI xs (G.roots ++ G.mourned)) (hd : ∀ k, k < G.objs.length → DoneI G xs k) : IsR G xs := by
  have all : ∀ p, Rch G p → p < G.objs.length ∧ (G.objs.getD p obD).id ∈ xs := fun p hp => hp (fun p => p < G.objs.length ∧ (G.objs.getD p obD).id ∈ xs) (by
    refine ⟨fun r h1 hl => ⟨ledP_lt hl, ?_⟩, fun p hp ha r h1 hl => ⟨ledP_lt hl, ?_⟩, fun p q hp ha hq r h1 hl => ⟨ledP_lt hl, ?_⟩⟩
    · rw [(right_ref hG (.inl h1) (led_two hl)).2]
      exact hr r h1 (led_two hl)
    · rw [(right_ref hG (.inr ⟨p, hp.1, onw_mem h1⟩) (led_two hl)).2]
      exact (hd p hp.1 hp.2).1 ha r h1 (led_two hl)
    · rw [(right_ref hG (.inr ⟨p, hp.1, onw_mem h1⟩) (led_two hl)).2]
      exact (hd p hp.1 hp.2).2 q ha hq.2 r h1 (led_two hl))
  obtain ⟨ys, hy⟩ := isR_ex G
  have e : xs = ys := rising_ext h.rise (isR_rising hG hy) fun a => by
    rw [isR_mem hy]
    exact ⟨h.sound a, fun ⟨p, hp, e⟩ => by rw [← e]; exact (all p hp).2⟩
  rw [e]
  exact hy
theorem rise_inj {os : List Ob} (h : Rise os) {p q : Nat} (hp : p < os.length) (hq : q < os.length) (e : (os.getD p obD).id = (os.getD q obD).id) : p = q := by
  rcases Nat.lt_trichotomy p q with h1 | h1 | h1
  · have := h p q h1 hq; omega
  · exact h1
  · have := h q p h1 hp; omega
/-- From which slot on an object leads on, as the specification finds it. -/
def FromOk (o : Ob) (ys : List Int) (F : Nat) : Prop := (o.fmt = 1 ∧ F = o.slots.length) ∨ (o.fmt = 0 ∧ F = 0) ∨ (o.fmt = 2 ∧ F = 1 ∧ ¬ ((o.slots.getD 0 refD).1 = 2 ∧ (o.slots.getD 0 refD).2 ∉ ys)) ∨ (o.fmt = 2 ∧ F = o.slots.length ∧ (o.slots.getD 0 refD).1 = 2 ∧ (o.slots.getD 0 refD).2 ∉ ys)
theorem from_ok {G : Gr} (hG : gOk G = true) {k : Nat} (hk : k < G.objs.length) {ys : List Int} (hg : Good G ys) (hin : (G.objs.getD k obD).id ∈ ys) {F : Nat} (hF : FromOk (G.objs.getD k obD) ys F) :
    F ≤ (G.objs.getD k obD).slots.length ∧ (∀ r ∈ (G.objs.getD k obD).slots.drop F, r.1 = 2 → ∃ p, Rch G p ∧ (G.objs.getD p obD).id = r.2) ∧ (goesI ys ((G.objs.getD k obD).slots.drop F) → DoneI G ys k) := by
  have hR : Rch G k := by
    obtain ⟨p, hp, e⟩ := hg.sound _ hin
    rw [rise_inj (gOk_rise hG) (rch_lt hp) hk e] at hp
    exact hp
  have ref : ∀ r ∈ (G.objs.getD k obD).slots, r.1 = 2 → ledB G.objs r = true ∧ (G.objs.getD (ledP G.objs r) obD).id = r.2 := fun r hr h2 => right_ref hG (.inr ⟨k, hk, hr⟩) h2
  rcases hF with ⟨hf, rfl⟩ | ⟨hf, rfl⟩ | ⟨hf, rfl, hn⟩ | ⟨hf, rfl, h2, hn⟩
  · have eo : onw (G.objs.getD k obD) = [] := by unfold onw; rw [if_neg (by omega), if_neg (by omega)]
    refine ⟨Nat.le_refl _, fun r hr => by simp at hr, fun _ _ => ⟨fun _ => by rw [eo]; exact fun r hr => absurd hr (by simp), fun q _ _ => by rw [eo]; exact fun r hr => absurd hr (by simp)⟩⟩
  · have eo : onw (G.objs.getD k obD) = (G.objs.getD k obD).slots := by unfold onw; rw [if_pos hf]
    have ea : awt G.objs (G.objs.getD k obD) = none := by unfold awt; rw [if_neg (by omega)]
    refine ⟨Nat.zero_le _, fun r hr h2 => ?_, fun hgo _ => ⟨fun _ => by rw [eo]; exact hgo, fun q e _ => (by rw [ea] at e; cases e)⟩⟩
    rw [List.drop_zero] at hr
    exact ⟨_, Rch.on0 k hR ea r (by rw [eo]; exact hr) (ref r hr h2).1, (ref r hr h2).2⟩
  · have eo : onw (G.objs.getD k obD) = (G.objs.getD k obD).slots.drop 1 := by unfold onw; rw [if_neg (by omega), if_pos hf]
    obtain ⟨h0, hm⟩ := right_key hG hk hf
    refine ⟨h0, fun r hr h2 => ?_, fun hgo _ => ⟨fun _ => by rw [eo]; exact hgo, fun q _ _ => by rw [eo]; exact hgo⟩⟩
    have hr' := List.mem_of_mem_drop hr
    have hl := ref r hr' h2
    cases ha : awt G.objs (G.objs.getD k obD) with
    | none => exact ⟨_, Rch.on0 k hR ha r (by rw [eo]; exact hr) hl.1, hl.2⟩
    | some q =>
      have hq : Rch G q := by
        unfold awt at ha
        split at ha
        · rename_i hc
          injection ha with ha
          have h22 := led_two hc.2
          have hin2 : ((G.objs.getD k obD).slots.getD 0 refD).2 ∈ ys := by
            apply Classical.byContradiction
            intro hno
            exact hn ⟨h22, hno⟩
          obtain ⟨p, hp, e⟩ := hg.sound _ hin2
          have e2 := (ref _ hm h22).2
          rw [ha] at e2
          have hqlt : q < G.objs.length := by rw [← ha]; exact ledP_lt hc.2
          rw [rise_inj (gOk_rise hG) (rch_lt hp) hqlt (e.trans e2.symm)] at hp
          exact hp
        · cases ha
      exact ⟨_, Rch.on1 k q hR ha hq r (by rw [eo]; exact hr) hl.1, hl.2⟩
  · obtain ⟨h0, hm⟩ := right_key hG hk hf
    have hl := ref _ hm h2
    have ea : awt G.objs (G.objs.getD k obD) = some (ledP G.objs ((G.objs.getD k obD).slots.getD 0 refD)) := by unfold awt; rw [if_pos ⟨hf, hl.1⟩]
    refine ⟨Nat.le_refl _, fun r hr => by simp at hr, fun _ _ => ⟨fun e => (by rw [ea] at e; cases e), fun q e hq => ?_⟩⟩
    rw [ea] at e
    injection e with e
    rw [← e, hl.2] at hq
    exact absurd hq hn
theorem isR_unique {G : Gr} {xs ys : List Int} (h : IsR G xs) (h' : IsR G ys) : xs = ys := by
  obtain ⟨f, hf, rfl⟩ := h'
  exact isR_eq h hf
end Go.Proofs.Ytdogibjgogcdkac.gr
namespace Go.Proofs.Ytdogibjgogcdkac.gr
open Go.RowKit rows heads

/-- The objects, k of them loosened, and the first i slots of the next one, if it is weak. -/
def looseJ (os : List Ob) (f : Nat → Bool) (k i : Nat) : List Ob := if (os.getD k obD).fmt = 1 then looseI os f k i else looseK os f k
theorem looseJ_zero {os : List Ob} {f : Nat → Bool} {k : Nat} (hk : k < os.length) : looseJ os f k 0 = looseK os f k := by
  unfold looseJ
  split
  · exact looseI_zero hk
  · rfl
theorem looseJ_all {os : List Ob} {f : Nat → Bool} {k : Nat} (hk : k < os.length) (h1 : f k = true) : looseJ os f k (os.getD k obD).slots.length = looseK os f (k + 1) := by
  unfold looseJ
  split
  · rename_i h2; exact looseI_all hk h1 h2
  · rename_i h2; exact (looseK_skip hk (.inr h2)).symm
theorem looseJ_next {os : List Ob} {f : Nat → Bool} {k i : Nat} (hk : k < os.length) (hi : i < (os.getD k obD).slots.length) :
    looseJ os f k (i + 1) = if ((os.getD k obD).fmt == 1 && looseB os f ((os.getD k obD).slots.getD i refD)) = true then setSlot (looseJ os f k i) k i refD else looseJ os f k i := by
  unfold looseJ
  by_cases h : (os.getD k obD).fmt = 1
  · have h' : ((os.getD k obD).fmt == 1) = true := by simpa using h
    rw [if_pos h, if_pos h, h', Bool.true_and]
    exact looseI_next hk hi
  · have h' : ((os.getD k obD).fmt == 1) = false := by simpa using h
    rw [if_neg h, if_neg h, h', Bool.false_and, if_neg (by simp)]
theorem looseJ_slots {os : List Ob} {f : Nat → Bool} {k i : Nat} (hk : k < os.length) : ((looseJ os f k i).getD k obD).slots.length = (os.getD k obD).slots.length ∧ ((looseJ os f k i).getD k obD).slots.getD i refD = (os.getD k obD).slots.getD i refD := by
  unfold looseJ
  split
  · rw [looseI_getD hk hk, if_pos rfl]
    refine ⟨?_, take_map_get⟩
    simp only [List.length_append, List.length_map, List.length_take, List.length_drop]
    omega
  · rw [looseK_fmt hk (Nat.lt_irrefl _)]
    exact ⟨rfl, rfl⟩
theorem keptM_set (ms : List MO) (f : Nat → Bool) (k : Nat) (x : MO) : keptM (ms.set k x) f k = keptM ms f k := by
  unfold keptM
  apply List.map_congr_left
  intro p hp
  have hp := List.mem_range.1 (List.mem_filter.1 hp).1
  rw [List.getD_eq_getElem?_getD, List.getElem?_set_ne (by omega), List.getD_eq_getElem?_getD]
/-- An id is among those of the places that are kept just where its place is. -/
theorem pick_mem {G : Gr} (hr : Right G) {f : Nat → Bool} {p : Nat} (hp : p < G.objs.length) : decide ((G.objs.getD p obD).id ∈ pick G.objs f G.objs.length) = f p := by
  have h : (G.objs.getD p obD).id ∈ pick G.objs f G.objs.length ↔ f p = true := by
    unfold pick
    constructor
    · intro h
      obtain ⟨q, hq, e⟩ := List.mem_map.1 h
      obtain ⟨h1, h2⟩ := List.mem_filter.1 hq
      have := rise_inj (gOk_rise hr.gOk) (List.mem_range.1 h1) hp e
      rw [← this]
      exact h2
    · intro h
      exact List.mem_map.2 ⟨p, List.mem_filter.2 ⟨List.mem_range.2 hp, h⟩, rfl⟩
  cases e : f p
  · exact decide_eq_false (fun h' => by rw [h.1 h'] at e; cases e)
  · exact decide_eq_true (h.2 e)
theorem least_of {p : Nat → Prop} : ∀ n, p n → ∃ m, p m ∧ ∀ i, i < m → ¬ p i := by
  classical
  intro n
  induction n using Nat.strongRecOn with
  | ind n ih =>
    intro h
    by_cases h' : ∃ i, i < n ∧ p i
    · obtain ⟨i, h1, h2⟩ := h'
      exact ih i h1 h2
    · exact ⟨n, h, fun i hi hp => h' ⟨i, hi, hp⟩⟩
theorem atI_id {os : List Ob} {id : Int} (h : 0 ≤ atI os id) : (os.getD (atI os id).toNat obD).id = id := by
  by_cases hx : ∃ m, m < os.length ∧ (os.getD m obD).id = id
  · obtain ⟨n, hn⟩ := hx
    obtain ⟨m, ⟨h1, h2⟩, h3⟩ := least_of (p := fun m => m < os.length ∧ (os.getD m obD).id = id) n hn
    rw [atI_at h1 h2 (fun i hi e => h3 i hi ⟨by omega, e⟩), Int.toNat_natCast]
    exact h2
  · rw [atI_no (fun m hm e => hx ⟨m, hm, e⟩)] at h
    omega
theorem pick_loose {G : Gr} (hr : Right G) {f : Nat → Bool} {e : Rf} (he : refOk G.objs e = true) : (e.1 == 2 && !(decide (e.2 ∈ pick G.objs f G.objs.length))) = looseB G.objs f e := by
  unfold looseB
  by_cases h2 : e.1 = 2
  · obtain ⟨h3, h4⟩ := refOk_two he h2
    have hp : (atI G.objs e.2).toNat < G.objs.length := by omega
    have hid : (G.objs.getD (atI G.objs e.2).toNat obD).id = e.2 := atI_id h3
    have := pick_mem hr (f := f) hp
    rw [hid] at this
    rw [this]
  · have : (e.1 == 2) = false := by simpa using h2
    rw [this]; rfl
end Go.Proofs.Ytdogibjgogcdkac.gr
namespace Go.Proofs.Ytdogibjgogcdkac.gr
open Go.RowKit rows heads

/-- Does an ephemeron keep what it holds? -/
def keyB (G : Gr) (f : Nat → Bool) (k : Nat) : Bool := (G.objs.getD k obD).fmt == 2 && (!(((G.objs.getD k obD).slots.getD 0 refD).1 == 2) || f (atI G.objs ((G.objs.getD k obD).slots.getD 0 refD).2).toNat)
/-- Does its slot count? -/
def onB (G : Gr) (f : Nat → Bool) (k j : Nat) : Bool := ((G.objs.getD k obD).slots.getD j refD).1 == 2 && ((G.objs.getD k obD).fmt == 0 || (keyB G f k && decide (0 < j)))
/-- What the first j slots lead to. -/
def ledJ (G : Gr) (f : Nat → Bool) (k : Nat) : Nat → List Int
  | 0 => []
  | j + 1 => ledJ G f k j ++ if onB G f k j = true then [((G.objs.getD k obD).slots.getD j refD).2] else []
def ledO (G : Gr) (f : Nat → Bool) (k : Nat) : List Int := if f k = true then ledJ G f k (G.objs.getD k obD).slots.length else []
/-- What the first refs lead to. -/
def ledR (es : List Rf) : Nat → List Int
  | 0 => []
  | i + 1 => ledR es i ++ if (es.getD i refD).1 == 2 then [(es.getD i refD).2] else []
/-- All that is led to, by the first k objects. -/
def ledK (G : Gr) (f : Nat → Bool) : Nat → List Int
  | 0 => ledR (G.roots ++ G.mourned) (G.roots ++ G.mourned).length
  | k + 1 => ledK G f k ++ ledO G f k

theorem mem_ledR {es : List Rf} : ∀ {n : Nat} {x : Int}, x ∈ ledR es n ↔ ∃ i, i < n ∧ (es.getD i refD).1 = 2 ∧ x = (es.getD i refD).2
  | 0, x => by simp [ledR]
  | n + 1, x => by
    simp only [ledR, List.mem_append, mem_ledR (n := n)]
    constructor
    · rintro (⟨i, h1, h2⟩ | h)
      · exact ⟨i, by omega, h2⟩
      · split at h
        · rename_i h'
          exact ⟨n, by omega, by simpa using h', by simpa using h⟩
        · simp at h
    · rintro ⟨i, h1, h2, h3⟩
      by_cases e : i = n
      · subst e
        right
        rw [if_pos (by simpa using h2)]
        simpa using h3
      · exact .inl ⟨i, by omega, h2, h3⟩
theorem mem_ledJ {G : Gr} {f : Nat → Bool} {k : Nat} : ∀ {n : Nat} {x : Int}, x ∈ ledJ G f k n ↔ ∃ j, j < n ∧ onB G f k j = true ∧ x = ((G.objs.getD k obD).slots.getD j refD).2
  | 0, x => by simp [ledJ]
  | n + 1, x => by
    simp only [ledJ, List.mem_append, mem_ledJ (n := n)]
    constructor
    · rintro (⟨i, h1, h2⟩ | h)
      · exact ⟨i, by omega, h2⟩
      · split at h
        · rename_i h'
          exact ⟨n, by omega, h', by simpa using h⟩
        · simp at h
    · rintro ⟨i, h1, h2, h3⟩
      by_cases e : i = n
      · subst e
        right
        rw [if_pos h2]
        simpa using h3
      · exact .inl ⟨i, by omega, h2, h3⟩
theorem mem_ledK {G : Gr} {f : Nat → Bool} : ∀ {n : Nat} {x : Int}, x ∈ ledK G f n ↔ (x ∈ ledR (G.roots ++ G.mourned) (G.roots ++ G.mourned).length ∨ ∃ k, k < n ∧ x ∈ ledO G f k)
  | 0, x => by simp [ledK]
  | n + 1, x => by
    simp only [ledK, List.mem_append, mem_ledK (n := n)]
    constructor
    · rintro ((h | ⟨k, h1, h2⟩) | h)
      · exact .inl h
      · exact .inr ⟨k, by omega, h2⟩
      · exact .inr ⟨n, by omega, h⟩
    · rintro (h | ⟨k, h1, h2⟩)
      · exact .inl (.inl h)
      · by_cases e : k = n
        · subst e; exact .inr h2
        · exact .inl (.inr ⟨k, by omega, h2⟩)
theorem ledR_len (es : List Rf) : ∀ n, (ledR es n).length ≤ n
  | 0 => by simp [ledR]
  | n + 1 => by
    have := ledR_len es n
    simp only [ledR, List.length_append]
    split <;> simp <;> omega
theorem ledJ_len (G : Gr) (f : Nat → Bool) (k : Nat) : ∀ n, (ledJ G f k n).length ≤ n
  | 0 => by simp [ledJ]
  | n + 1 => by
    have := ledJ_len G f k n
    simp only [ledJ, List.length_append]
    split <;> simp <;> omega
theorem ledK_len {G : Gr} (h : Right G) (f : Nat → Bool) : ∀ n, n ≤ G.objs.length → (ledK G f n).length ≤ (G.roots ++ G.mourned).length + 20 * n
  | 0, _ => by have := ledR_len (G.roots ++ G.mourned) (G.roots ++ G.mourned).length; simpa [ledK] using this
  | n + 1, hn => by
    have ih := ledK_len h f n (by omega)
    have h20 := (hok_true (obOk_lt (h.ob n (by omega))).2.2.2).2.1
    have : (ledO G f n).length ≤ 20 := by
      unfold ledO
      split
      · have := ledJ_len G f n (G.objs.getD n obD).slots.length
        omega
      · simp
    rw [show ledK G f (n + 1) = ledK G f n ++ ledO G f n from rfl, List.length_append]
    omega
/-- A right ref of kind 2 leads to a place. -/
theorem led_both {G : Gr} {e : Rf} (he : refOk G.objs e = true) (h2 : e.1 = 2) : ledB G.objs e = true ∧ (G.objs.getD (ledP G.objs e) obD).id = e.2 := by
  obtain ⟨h3, h4⟩ := refOk_two he h2
  exact ⟨by simp [ledB, h2, h3], atI_id h3⟩
theorem led_kind {G : Gr} {e : Rf} (h : ledB G.objs e = true) : e.1 = 2 := by
  simp only [ledB, Bool.and_eq_true] at h
  simpa using h.1
theorem root_ok {G : Gr} (h : Right G) {i : Nat} (hi : i < (G.roots ++ G.mourned).length) : refOk G.objs ((G.roots ++ G.mourned).getD i refD) = true := by
  have h6 := (gOk_len h.gOk).2.1
  rw [List.getD_eq_getElem?_getD, List.getElem?_append]
  split
  · rename_i h'
    have := h.root i (by omega)
    rw [List.getD_eq_getElem?_getD] at this
    exact this
  · rename_i h'
    have := (h.mo (i - G.roots.length) (by simp at hi; omega)).2
    rw [List.getD_eq_getElem?_getD] at this
    exact this
theorem mem_getD_rf {l : List Rf} {e : Rf} (h : e ∈ l) : ∃ i, i < l.length ∧ l.getD i refD = e := by
  obtain ⟨i, hi, rfl⟩ := List.getElem_of_mem h
  exact ⟨i, hi, by simp [List.getD_eq_getElem?_getD, List.getElem?_eq_getElem hi]⟩
theorem getD_mem_rf {l : List Rf} {i : Nat} (h : i < l.length) : l.getD i refD ∈ l := by
  rw [List.getD_eq_getElem?_getD, List.getElem?_eq_getElem h]
  exact List.getElem_mem h
theorem drop1_getD (l : List Rf) (j : Nat) : (l.drop 1).getD j refD = l.getD (j + 1) refD := by
  rw [List.getD_eq_getElem?_getD, List.getD_eq_getElem?_getD, List.getElem?_drop, Nat.add_comm]
theorem eph_slots {G : Gr} (h : Right G) {k : Nat} (hk : k < G.objs.length) (h2 : (G.objs.getD k obD).fmt = 2) : 0 < (G.objs.getD k obD).slots.length := (right_key h.gOk hk h2).1

theorem led_reached {G : Gr} (h : Right G) {f : Nat → Bool} (hf : ∀ p, f p = true ↔ Rch G p) {x : Int} (hx : x ∈ ledK G f G.objs.length) : x ∈ pick G.objs f G.objs.length := by
  have key : ∀ p, Rch G p → (G.objs.getD p obD).id ∈ pick G.objs f G.objs.length := fun p hp => of_decide_eq_true ((pick_mem h (rch_lt hp)).trans ((hf p).2 hp))
  rcases mem_ledK.1 hx with hx | ⟨k, hk, hx⟩
  · obtain ⟨i, hi, h2, rfl⟩ := mem_ledR.1 hx
    obtain ⟨l1, l2⟩ := led_both (root_ok h hi) h2
    rw [← l2]
    exact key _ (Rch.root _ (getD_mem_rf hi) l1)
  · unfold ledO at hx
    split at hx
    · rename_i hfk
      obtain ⟨j, hj, hon, rfl⟩ := mem_ledJ.1 hx
      have hrk := (hf k).1 hfk
      simp only [onB, Bool.and_eq_true, Bool.or_eq_true, beq_iff_eq, decide_eq_true_eq] at hon
      obtain ⟨h2, hor⟩ := hon
      obtain ⟨l1, l2⟩ := led_both (h.sl k hk j hj) h2
      rw [← l2]
      rcases hor with h0 | ⟨hkey, hj0⟩
      · refine key _ (Rch.on0 k hrk (by unfold awt; rw [if_neg (by rw [h0]; simp)]) _ ?_ l1)
        unfold onw
        rw [if_pos h0]
        exact getD_mem_rf hj
      · simp only [keyB, Bool.and_eq_true, Bool.or_eq_true, beq_iff_eq, Bool.not_eq_true', beq_eq_false_iff_ne] at hkey
        obtain ⟨hf2, hk2⟩ := hkey
        have hon : (G.objs.getD k obD).slots.getD j refD ∈ onw (G.objs.getD k obD) := by
          unfold onw
          rw [if_neg (by rw [hf2]; decide), if_pos hf2]
          have : (G.objs.getD k obD).slots.getD j refD = ((G.objs.getD k obD).slots.drop 1).getD (j - 1) refD := by
            rw [drop1_getD, show j - 1 + 1 = j by omega]
          rw [this]
          exact getD_mem_rf (by rw [List.length_drop]; omega)
        by_cases hl : ledB G.objs ((G.objs.getD k obD).slots.getD 0 refD) = true
        · have hfq : f (ledP G.objs ((G.objs.getD k obD).slots.getD 0 refD)) = true := by
            rcases hk2 with e | e
            · exact absurd (led_kind hl) e
            · exact e
          exact key _ (Rch.on1 k _ hrk (by unfold awt; rw [if_pos ⟨hf2, hl⟩]) ((hf _).1 hfq) _ hon l1)
        · exact key _ (Rch.on0 k hrk (by unfold awt; rw [if_neg (fun e => hl e.2)]) _ hon l1)
    · simp at hx
theorem reached_led {G : Gr} (h : Right G) {f : Nat → Bool} (hf : ∀ p, f p = true ↔ Rch G p) {p : Nat} (hp : Rch G p) : (G.objs.getD p obD).id ∈ ledK G f G.objs.length := by
  have onO : ∀ p, Rch G p → (∀ q, awt G.objs (G.objs.getD p obD) = some q → Rch G q) → ∀ r, r ∈ onw (G.objs.getD p obD) → ledB G.objs r = true → (G.objs.getD (ledP G.objs r) obD).id ∈ ledK G f G.objs.length := by
    intro p hp hq r hr hl
    have h2 := led_kind hl
    have hpl := rch_lt hp
    have hid : ∀ r, ledB G.objs r = true → (G.objs.getD (ledP G.objs r) obD).id = r.2 := fun r hl => by
      simp only [ledB, Bool.and_eq_true, decide_eq_true_eq] at hl
      exact atI_id hl.2
    rw [hid r hl]
    refine mem_ledK.2 (.inr ⟨p, hpl, ?_⟩)
    unfold ledO
    rw [if_pos ((hf p).2 hp)]
    refine mem_ledJ.2 ?_
    unfold onw at hr
    split at hr
    · rename_i h0
      obtain ⟨j, hj, e⟩ := mem_getD_rf hr
      refine ⟨j, hj, ?_, by rw [e]⟩
      simp only [onB, e, Bool.and_eq_true, Bool.or_eq_true, beq_iff_eq]
      exact ⟨h2, .inl h0⟩
    · split at hr
      · rename_i h0 hf2
        obtain ⟨j, hj, e⟩ := mem_getD_rf hr
        rw [List.length_drop] at hj
        have e' : (G.objs.getD p obD).slots.getD (j + 1) refD = r := by
          rw [← e, drop1_getD]
        have hkey : keyB G f p = true := by
          simp only [keyB, Bool.and_eq_true, Bool.or_eq_true, beq_iff_eq, Bool.not_eq_true', beq_eq_false_iff_ne]
          refine ⟨hf2, ?_⟩
          by_cases hs : ((G.objs.getD p obD).slots.getD 0 refD).1 = 2
          · right
            have hl0 := (led_both (h.sl p hpl 0 (by omega)) hs).1
            exact (hf _).2 (hq _ (by unfold awt; rw [if_pos ⟨hf2, hl0⟩]; rfl))
          · exact .inl hs
        refine ⟨j + 1, by omega, ?_, by rw [e']⟩
        simp only [onB, e', Bool.and_eq_true, Bool.or_eq_true, beq_iff_eq, decide_eq_true_eq]
        exact ⟨h2, .inr ⟨hkey, by omega⟩⟩
      · simp at hr
  have cl : Closed G (fun p => Rch G p ∧ (G.objs.getD p obD).id ∈ ledK G f G.objs.length) := by
    refine ⟨fun r hr hl => ⟨Rch.root r hr hl, ?_⟩, fun p hp ha r hr hl => ⟨Rch.on0 p hp.1 ha r hr hl, onO p hp.1 (fun q e => by rw [ha] at e; cases e) r hr hl⟩, fun p q hp ha hq r hr hl => ⟨Rch.on1 p q hp.1 ha hq.1 r hr hl, onO p hp.1 (fun q' e => by rw [ha] at e; cases e; exact hq.1) r hr hl⟩⟩
    obtain ⟨i, hi, e⟩ := mem_getD_rf hr
    have h2 := led_kind hl
    have hid : (G.objs.getD (ledP G.objs r) obD).id = r.2 := by
      simp only [ledB, Bool.and_eq_true, decide_eq_true_eq] at hl
      exact atI_id hl.2
    rw [hid]
    exact mem_ledK.2 (.inl (mem_ledR.2 ⟨i, hi, by rw [e]; exact h2, by rw [e]⟩))
  exact (hp _ cl).2
/-- Who grieves is told so. -/
theorem grieves {G : Gr} (h : Right G) {f : Nat → Bool} (hf : ∀ p, f p = true ↔ Rch G p) {ps : List Nat} (hg : IsG G ps) {k : Nat} (hk : k < G.objs.length) (hfk : f k = true) : decide ((G.objs.getD k obD).id ∈ ps.map fun p => (G.objs.getD p obD).id) = ((G.objs.getD k obD).fmt == 2 && !(keyB G f k)) := by
  have h1 : ((G.objs.getD k obD).id ∈ ps.map fun p => (G.objs.getD p obD).id) ↔ Grv G k := by
    constructor
    · intro hm
      obtain ⟨p, hp, e⟩ := List.mem_map.1 hm
      have hg' := (hg.2 p).1 hp
      have := rise_inj (gOk_rise h.gOk) (grv_lt hg') hk e
      rw [← this]
      exact hg'
    · intro hg'
      exact List.mem_map.2 ⟨k, (hg.2 k).2 hg', rfl⟩
  have h2 : Grv G k ↔ ((G.objs.getD k obD).fmt == 2 && !(keyB G f k)) = true := by
    unfold Grv
    simp only [Bool.and_eq_true, beq_iff_eq, Bool.not_eq_true']
    constructor
    · rintro ⟨_, hf2, q, ha, hq⟩
      refine ⟨hf2, ?_⟩
      unfold awt at ha
      split at ha
      · rename_i hh
        cases ha
        have hs := led_kind hh.2
        have hnf : f (ledP G.objs ((G.objs.getD k obD).slots.getD 0 refD)) = false := by
          cases e : f (ledP G.objs ((G.objs.getD k obD).slots.getD 0 refD))
          · rfl
          · exact absurd ((hf _).1 e) hq
        unfold keyB
        rw [hs]
        have : f (atI G.objs ((G.objs.getD k obD).slots.getD 0 refD).2).toNat = false := hnf
        rw [this]
        simp
      · cases ha
    · rintro ⟨hf2, hkey⟩
      refine ⟨(hf k).1 hfk, hf2, ?_⟩
      simp only [keyB, hf2, beq_self_eq_true, Bool.true_and, Bool.or_eq_false_iff, Bool.not_eq_false', beq_iff_eq] at hkey
      have hl0 := (led_both (h.sl k hk 0 (eph_slots h hk hf2)) hkey.1).1
      refine ⟨ledP G.objs ((G.objs.getD k obD).slots.getD 0 refD), by unfold awt; rw [if_pos ⟨hf2, hl0⟩], fun hr => ?_⟩
      have := (hf _).2 hr
      have h3 : f (ledP G.objs ((G.objs.getD k obD).slots.getD 0 refD)) = false := hkey.2
      rw [h3] at this
      cases this
  cases e : ((G.objs.getD k obD).fmt == 2 && !(keyB G f k))
  · exact decide_eq_false (fun hm => by rw [h2.1 (h1.1 hm)] at e; cases e)
  · exact decide_eq_true (h1.2 (h2.2 e))
end Go.Proofs.Ytdogibjgogcdkac.gr
