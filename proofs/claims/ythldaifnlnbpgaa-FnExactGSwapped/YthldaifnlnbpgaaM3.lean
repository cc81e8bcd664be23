/-
  Chapter 18 as the program has it: what becomes of refs, as a map keyed by refs; exchange over lists of refs. Chapter 18 as the program has it: leadAnew. Chapter 18 as the program has it: what becomes of the refs, as the maps of GSwapped and GReplaced.
-/
import Derived.Test.YthldaifnlnbpgaaBecS
import Derived.Test.YthldaifnlnbpgaaGraphK
import Derived.Maps.OwnSet
import Derived.Maps.Own
import Derived.Maps.Views
import Derived.DeepKeys4
import Derived.Test.YthldaifnlnbpgaaM1
import Derived.Maps.AppendAt
import Derived.Lib.Hide
import Derived.Deep.AppendLies
import Derived.Deep.RegionLaw
namespace Go.Proofs.Ythldaifnlnbpgaa.gr
open Go.RowKit rows heads Go.Maps
set_option maxRecDepth 100000
set_option linter.unusedVariables false
set_option linter.unusedSimpArgs false

theorem laidOutR : laidOutB Try.prog = true := by kernel_rfl
theorem rfWide : (match Try.prog.underlying 47 with | some (.array _ _) | some (.struct _) => true | _ => false) = true := by kernel_rfl
theorem rfLaw : Keyed Try.prog 47 := Keyed.of_law (deep_law_laid laidOutR (m := 2) (by omega) (of_decide_eq_true (by kernel_rfl)) (by kernel_rfl) rfWide)
/-- A ref as a key. -/
def klR (e : Rf) : Lit := .string (keyBytes [.int .i64 e.1, .int .i64 e.2])
/-- Both numbers of a ref are of Go's. -/
def wfR (e : Rf) : Prop := (Lit.int .i64 e.1).wf = true ∧ (Lit.int .i64 e.2).wf = true
set_option maxHeartbeats 2000000 in
theorem rf_key {e : Rf} (h : wfR e) : keyOf Try.prog 47 (rv e) = some (klR e) := by
  obtain ⟨hf, ht⟩ := h
  have e1 : Try.prog.keyType 47 = true := by kernel_rfl
  have e3 : Try.prog.cellsOf 47 = 2 := by kernel_rfl
  have e4 : Try.prog.cellsOf 2 = 1 := by kernel_rfl
  have e2 : (rv e).formed Try.prog 47 = true := by
    simp [Value.formed, Try.underlying47, Try.underlying2, e3]
  have e5 : 0 < Try.prog.types.size := of_decide_eq_true (by kernel_rfl)
  obtain ⟨n, hn⟩ : ∃ n, Try.prog.types.size + 1 = n + 1 + 1 := ⟨Try.prog.types.size - 1, by omega⟩
  have hL : Try.prog.keyLits (Try.prog.types.size + 1) 47 [.int .i64 e.1, .int .i64 e.2] = some [.int .i64 e.1, .int .i64 e.2] := by
    rw [hn]
    unfold Program.keyLits
    simp only [Try.underlying47, e3]
    rw [if_pos ⟨rfl, by kernel_rfl⟩]
    unfold Program.keyLits
    simp [Try.underlying2, e4, hf, ht]
  have hc : (rv e).cells.toList = [.int .i64 e.1, .int .i64 e.2] := rfl
  unfold keyOf
  simp only [Try.underlying47, e1, e2, Bool.and_self, if_true]
  rw [hc, hL]
  rfl
theorem klR_inj {a b : Rf} (ha : wfR a) (hb : wfR b) (h : klR a = klR b) : a = b := by
  have k1 := rf_key ha
  have k2 := rf_key hb
  rw [h] at k1
  have e := rfLaw.inj k1 k2
  injection e with e
  have e' : [Value.int .i64 a.1, Value.int .i64 a.2] = [Value.int .i64 b.1, Value.int .i64 b.2] := by
    have := congrArg Array.toList e
    simpa using this
  obtain ⟨a1, a2⟩ := a
  obtain ⟨b1, b2⟩ := b
  simp at e'
  rw [e'.1, e'.2]
/-- Any value as an entry. -/
def heldR (v : Value) : Option (DataW Value × List MemPlace) := some (.held v, [])
/-- What a map of refs tells. -/
structure RMap (D : DataW Value) (f : Rf → Rf) : Prop where
  val : ∀ e, wfR e → Maps.has D (klR e) = true → ∀ zd, D.atKey (klR e) zd = .held (rv (f e))
  sam : ∀ e, wfR e → Maps.has D (klR e) = false → f e = e
/-- What a look-up in it answers. -/
def lkR (D : DataW Value) (f : Rf → Rf) (e : Rf) : Rf := if Maps.has D (klR e) = true then f e else (0, 0)
theorem RMap.look {D : DataW Value} {f : Rf → Rf} (h : RMap D f) {e : Rf} (he : wfR e) : D.atKey (klR e) (.held (rv (0, 0))) = .held (rv (lkR D f e)) := by
  unfold lkR
  cases hh : Maps.has D (klR e)
  · rw [if_neg (by simp)]
    exact atKey_of_not_has hh _
  · rw [if_pos rfl]
    exact h.val e he hh _
/-- 'v, ok := m[k]' at a map whose entries are any values: the walk goes on with the value told. -/
theorem wpList_lookup_held {P : Program} (w : World) {ops : Array Oper} {rest : List Oper} {o : Oper} {a : Act} {Q : Exit → Act → World → Prop} (hg : o.guard = none) (m x : Operand) (t : TypeId) (hop : o.op = Op.lookup t m x true)
    (k e : TypeId) (K : Keyed P k) (ht : P.underlying t = some (.map k e)) {z : Value} (hz : (zeroValue e).run P w = .ok z w) (b n : Nat) (D : DataW Value)
    (hm : a.eval m = .map (some b)) (hown : w.ownsMap P k heldR b n D) (key : Value) (kl : Lit) (hx : a.eval x = key) (hkey : keyOf P k key = some kl) {u : Value} {bb : Bool} (hv : D.atKey kl (.held z) = .held u) (hb : Maps.has D kl = bb)
    (hK : wpList P ops Q rest (a.put o.dst (.tuple #[u, .bool bb])) w) : wpList P ops Q (o :: rest) a w := by
  refine wpList_lookup_own_ok w hg m x t hop k e K ht heldR hz (.held z) [] rfl b n D hm hown key kl hx hkey (fun v ps h => ?_)
  unfold heldR at h
  injection h with h
  have h1 := congrArg Prod.fst h
  simp only at h1
  rw [hv] at h1
  injection h1 with h1
  rw [h1, hb]
  exact hK
theorem rmap_one {e u : Rf} {f : Rf → Rf} (he : wfR e) (hf : f e = u) (ho : ∀ x, x ≠ e → f x = x) : RMap ((DataW.map [] : DataW Value).put (klR e) (.held (rv u))) f := by
  have hk : WideAt.IsKeyLit (klR e) := rfLaw.key (rf_key he)
  refine ⟨fun x hx hh zd => ?_, fun x hx hh => ?_⟩
  · by_cases ex : x = e
    · subst ex
      rw [atKey_put_same isMap_empty hk, hf]
    · rw [has_put_other (fun h => ex (klR_inj hx he h))] at hh
      simp [Maps.has] at hh
  · by_cases ex : x = e
    · subst ex
      rw [has_put_same isMap_empty hk] at hh
      cases hh
    · exact ho x ex
theorem rmap_two {e u : Rf} {f : Rf → Rf} (he : wfR e) (hu : wfR u) (hne : e ≠ u) (h1 : f e = u) (h2 : f u = e) (ho : ∀ x, x ≠ e → x ≠ u → f x = x) : RMap (((DataW.map [] : DataW Value).put (klR e) (.held (rv u))).put (klR u) (.held (rv e))) f := by
  have hk : WideAt.IsKeyLit (klR e) := rfLaw.key (rf_key he)
  have hk2 : WideAt.IsKeyLit (klR u) := rfLaw.key (rf_key hu)
  have M1 : IsMap ((DataW.map [] : DataW Value).put (klR e) (.held (rv u))) := isMap_empty.put _ _
  have hn : klR e ≠ klR u := fun h => hne (klR_inj he hu h)
  refine ⟨fun x hx hh zd => ?_, fun x hx hh => ?_⟩
  · by_cases ex : x = u
    · subst ex
      rw [atKey_put_same M1 hk2, h2]
    · rw [atKey_put_other (fun h => ex (klR_inj hx hu h))]
      rw [has_put_other (fun h => ex (klR_inj hx hu h))] at hh
      by_cases ex1 : x = e
      · subst ex1
        rw [atKey_put_same isMap_empty hk, h1]
      · rw [has_put_other (fun h => ex1 (klR_inj hx he h))] at hh
        simp [Maps.has] at hh
  · by_cases ex : x = u
    · subst ex
      rw [has_put_same M1 hk2] at hh
      cases hh
    · rw [has_put_other (fun h => ex (klR_inj hx hu h))] at hh
      by_cases ex1 : x = e
      · subst ex1
        rw [has_put_same isMap_empty hk] at hh
        cases hh
      · exact ho x ex1 ex
/-- All refs of a right graph are of Go's numbers. -/
theorem ids_pos {G : Gr} (h : Right G) : ∀ k, k < G.objs.length → 0 < (G.objs.getD k obD).id ∧ (G.objs.getD k obD).id < 100000 := by
  intro k
  have hn : G.next ≤ 100000 := by
    have := h.head
    unfold gHead inR at this
    simp only [Bool.and_eq_true, decide_eq_true_eq] at this
    omega
  induction k with
  | zero =>
    intro hk
    have := h.ob 0 hk
    unfold obOk at this
    simp only [Bool.and_eq_true, decide_eq_true_eq] at this
    have e : lastOf G.objs 0 = 0 := rfl
    rw [e] at this
    exact ⟨this.1.1.1, by have := this.1.1.2; omega⟩
  | succ k ih =>
    intro hk
    have h1 := ih (by omega)
    have := h.ob (k + 1) hk
    unfold obOk at this
    simp only [Bool.and_eq_true, decide_eq_true_eq] at this
    have e : lastOf G.objs (k + 1) = (G.objs.getD k obD).id := rfl
    rw [e] at this
    have q1 := this.1.1.1
    have q2 := this.1.1.2
    omega
theorem refOk_wf {G : Gr} (h : Right G) {e : Rf} (he : refOk G.objs e = true) : wfR e := by
  have key : -100000 ≤ e.2 ∧ e.2 ≤ 100000 ∧ 0 ≤ e.1 ∧ e.1 ≤ 2 := by
    unfold refOk at he
    split at he
    · rename_i h0
      have : e.2 = 0 := by simpa using he
      omega
    · split at he
      · rename_i h1
        simp only [inR, Bool.and_eq_true, decide_eq_true_eq] at he
        omega
      · simp only [Bool.and_eq_true, decide_eq_true_eq, beq_iff_eq] at he
        obtain ⟨h2, h3⟩ := he
        unfold atI at h3
        cases hf : G.objs.findIdx? (fun o => o.id == e.2) with
        | none => rw [hf] at h3; simp at h3
        | some i =>
          rw [List.findIdx?_eq_some_iff_getElem] at hf
          obtain ⟨hi, h4, _⟩ := hf
          have h5 := ids_pos h i hi
          rw [List.getD_eq_getElem?_getD, List.getElem?_eq_getElem hi] at h5
          have h6 : G.objs[i].id = e.2 := by simpa using h4
          simp only [Option.getD_some] at h5
          omega
  constructor
  · simp [Lit.wf, IntKind.min, IntKind.max, IntKind.signed, IntKind.bits]; omega
  · simp [Lit.wf, IntKind.min, IntKind.max, IntKind.signed, IntKind.bits]; omega
theorem leK_wf {G : Gr} (h : Right G) {ms : List MO} (ha : ms.map MO.abs = G.objs) {k i : Nat} (hk : k < ms.length + 2) (hi : i < (leK G ms k).length) : wfR ((leK G ms k).getD i refD) := by
  have hl : ms.length = G.objs.length := by rw [← ha]; simp
  match k, hk, hi with
  | 0, _, hi =>
    have := (gOk_parts h.gOk).1
    exact refOk_wf h (h.root i (by have : i < G.roots.length := hi; omega))
  | 1, _, hi => exact refOk_wf h (h.mo i hi).2
  | k + 2, hk, hi =>
    have e : (ms.getD k moD).slots = (G.objs.getD k obD).slots := by rw [← ha, abs_getD]; rfl
    show wfR ((ms.getD k moD).slots.getD i refD)
    rw [e]
    have hi' : i < (ms.getD k moD).slots.length := hi
    rw [e] at hi'
    exact refOk_wf h (h.sl k (by omega) i hi')

/-- The lists as values. -/
def vsR (r m : Value) (ms : List MO) (n : Nat) : List Value := (List.range n).map (lvK r m ms)
theorem vsR_len {r m : Value} {ms : List MO} {n : Nat} : (vsR r m ms n).length = n := by simp [vsR]
theorem vsR_next {r m : Value} {ms : List MO} {n : Nat} : vsR r m ms (n + 1) = vsR r m ms n ++ [lvK r m ms n] := by
  unfold vsR
  rw [List.range_succ, List.map_append]
  rfl
theorem vsR_get {r m : Value} {ms : List MO} {n k : Nat} (hk : k < n) : (vsR r m ms n)[k]? = some (lvK r m ms k) := by
  unfold vsR
  rw [List.getElem?_map, List.getElem?_range hk]
  rfl
/-- All that stands while refs are exchanged. -/
structure EX (w0 w : World) (base P : Nat) (o r m : Value) (ms : List MO) (G : Gr) (f : Rf → Rf) (n8 : Nat) (u8 : Value) (N bm nb : Nat) (D : DataW Value) (j i : Nat) : Prop where
  bs : BS w0 w base P o r m ms G f j i
  ls : w.ownsRow n8 28 1 u8 N (vsR r m ms N)
  mp : w.ownsMap Try.prog 47 heldR bm nb D
theorem ch_grownBy {g : Nat} {w w' : World} (h : Ch [g] w w') : w.grownBy w' (some g) := ⟨h.os, h.tape, h.output, h.size, fun k hk hne => h.block k hk (by simp; intro e; exact hne (by rw [e]))⟩
section
variable {w0 w : World} {base P : Nat} {o r m : Value} {ms : List MO} {G : Gr} {f : Rf → Rf} {n8 : Nat} {u8 : Value} {N bm nb : Nat} {D : DataW Value} {j i : Nat}
theorem EX.below {w' : World} (h : EX w0 w base P o r m ms G f n8 u8 N bm nb D j i) (hb : Below w.heap.size w w') : EX w0 w' base P o r m ms G f n8 u8 N bm nb D j i :=
  ⟨h.bs.below hb, row_below h.ls hb, h.mp.kept (row := none) ⟨hb.os, hb.tape, hb.output, hb.size, fun k hk _ => hb.block k hk⟩ (by simp)⟩
theorem EX.set (h : EX w0 w base P o r m ms G f n8 u8 N bm nb D j i) (h8 : w0.heap.size ≤ n8) (hbm : w0.heap.size ≤ bm) (hj : j < ms.length + 2) (hi : i < (leK G ms j).length) {q n c : Nat} (hv : lvK r m ms j = .slice (some ⟨q, 0, none⟩) n c) :
    EX w0 (put2 w q i (f ((leK G ms j).getD i refD))) base P o r m ms G f n8 u8 N bm nb D j (i + 1) := by
  have hq : q < w0.heap.size := h.bs.lt q (lvK_in hj (by rw [hv, blk_some]; simp))
  have C := put2_ch w q i (f ((leK G ms j).getD i refD))
  exact ⟨h.bs.set hj hi hv, row_ch h.ls C (fun x hx e => by have := (blk_lt h.ls x hx).1; rw [List.mem_singleton] at e; omega), h.mp.kept (ch_grownBy C) (by intro e; injection e with e; omega)⟩
end

set_option maxHeartbeats 16000000 in
theorem exchangeR_any {w0 w : World} {base P : Nat} {o r m : Value} {ms : List MO} {G : Gr} {f : Rf → Rf} {n8 lg lc bm nb : Nat} {D : DataW Value} (h : EX w0 w base P o r m ms G f n8 (.slice (some ⟨lg, 0, none⟩) (ms.length + 2) lc) (ms.length + 2) bm nb D 0 0) (h8 : w0.heap.size ≤ n8) (hbm : w0.heap.size ≤ bm) (hr : Right G) (hM : RMap D f) (hl : ms.length ≤ 1048576) :
    Calls Try.prog 49 #[.map (some bm), .slice (some ⟨lg, 0, none⟩) (ms.length + 2) lc] w fun e w' => e = .returned (.tuple #[]) ∧ BS w0 w' base P o r m ms G f (ms.length + 2) 0 := by
  have HR : Hid _ := hr
  have HM : Hid _ := hM
  have HAB : Hid _ := h.bs.abs
  have HFO : Hid (∀ k, k < ms.length + 2 → _) := fun k hk => BS.form h.bs (k := k) hk
  have HX0 : Hid _ := h
  have H8 : Hid _ := h8
  have HBM : Hid _ := hbm
  obtain ⟨N, hN⟩ : ∃ N, ms.length + 2 = N := ⟨_, rfl⟩
  rw [hN] at HX0 HFO ⊢
  have hNl : N ≤ 2097152 := by omega
  have HN : Hid _ := hN
  clear h hr hM hN h8 hbm hl
  have HZI : Hid (∀ w, (zeroValue 47).run Try.prog w = .ok (rv (0, 0)) w) := fun w => by go_simp
  go_enter Try.func49, Try.ntmps49
  go_wp2_with fail
  go_loopw [5, 6, 7, 8, 9, 12] (fun _ _ _ _ _ v wz => ∃ k : Nat, k ≤ N ∧ v = .int .i64 (k : Int) ∧ EX w0 wz base P o r m ms G f n8 (.slice (some ⟨lg, 0, none⟩) N lc) N bm nb D k 0) (fun _ _ _ _ _ v _ => N - (intOf v).toNat)
  case atStart => exact ⟨0, Nat.zero_le _, rfl, HX0.out⟩
  case round =>
    obtain ⟨k, hk, rfl, hX⟩ := hrel
    clear HX0
    by_cases hlt : k < N
    · have hlt' : (k : Int) < (N : Int) := by omega
      obtain ⟨va, vc, evl, hml, hva⟩ := HFO.out k hlt
      have lcell : wr.cell? ⟨lg, k, none⟩ = some (.slice va (leK G ms k).length vc) := by
        have q := World.ownsRow.cellAt hX.ls k (by omega)
        rw [vsR_get hlt, evl] at q
        exact q
      have hkO : k < ms.length + 2 := by have := HN.out; omega
      have HLE : Hid (∃ LN, LN = (leK G ms k).length) := ⟨_, rfl⟩
      obtain ⟨LN, hLN⟩ := HLE.out
      rw [← hLN] at evl hml hva lcell
      have HLK : Hid _ := hLN
      have HEV : Hid _ := evl
      have HVA : Hid _ := hva
      have HXk : Hid _ := hX
      unfold maxLen at hml
      clear hX HLE hLN evl hva
      go_wp2_with fail
      clear lcell
      go_loopw [6, 7, 8, 9, 18] (fun _ _ _ _ v wz => ∃ i : Nat, i ≤ LN ∧ v = .int .i64 (i : Int) ∧ EX w0 wz base P o r m ms G f n8 (.slice (some ⟨lg, 0, none⟩) N lc) N bm nb D k i) (fun _ _ _ _ v _ => LN - (intOf v).toNat)
      case atStart => exact ⟨0, Nat.zero_le _, rfl, HXk.out⟩
      case round =>
        obtain ⟨i, hi, rfl, hX⟩ := hrel
        clear HXk
        by_cases hit : i < LN
        · have hit' : (i : Int) < (LN : Int) := by omega
          obtain ⟨q, eva⟩ := HVA.out (by omega)
          subst eva
          have hle : i < (leK G ms k).length := by have := HLK.out; omega
          obtain ⟨c0, c1, f0, f1⟩ := BS.cell hX.bs hkO hle HEV.out
          have HWF : Hid _ := leK_wf HR.out HAB.out hkO hle
          obtain ⟨e0, he0⟩ : ∃ e0, (leK G ms k).getD i refD = e0 := ⟨_, rfl⟩
          rw [he0] at c0 c1 HWF
          have B1 : Below wr.heap.size wr (wr.alloc (rb e0)) := (Below.refl _ _).alloc (Nat.le_refl _) _
          have HX1 : Hid _ := hX.below B1
          have HK : Hid _ := rf_key HWF.out
          have HVL : Hid _ := HM.out.look HWF.out
          have HST : Hid (∀ W, Below wr.heap.size wr W → (W.cell? ⟨q, i * 2, none⟩ = some (.int .i64 e0.1) ∧ W.cell? ⟨q, i * 2 + 1, none⟩ = some (.int .i64 e0.2) ∧ W.frozen? ⟨q, i * 2, none⟩ = false ∧ W.frozen? ⟨q, i * 2 + 1, none⟩ = false) ∧ EX w0 (put2 W q i (f e0)) base P o r m ms G f n8 (.slice (some ⟨lg, 0, none⟩) N lc) N bm nb D k (i + 1) ∧ (f e0 = e0 → EX w0 W base P o r m ms G f n8 (.slice (some ⟨lg, 0, none⟩) N lc) N bm nb D k (i + 1))) := fun W hW => by
            have h2 := hX.below hW
            obtain ⟨c0, c1, f0, f1⟩ := BS.cell h2.bs hkO hle HEV.out
            rw [he0] at c0 c1
            refine ⟨⟨c0, c1, f0, f1⟩, ?_, fun e => ⟨h2.bs.same hle (by rw [he0]; exact e), h2.ls, h2.mp⟩⟩
            have := h2.set H8.out HBM.out hkO hle HEV.out
            rw [he0] at this
            exact this
          have HSM : Hid _ := HM.out.sam e0 HWF.out
          clear hX he0 B1 hle
          obtain ⟨e1, e2⟩ := e0
          obtain ⟨u0, hu0⟩ : ∃ u0, lkR D f (e1, e2) = u0 := ⟨_, rfl⟩
          rw [hu0] at HVL
          have HU0 : Hid _ := hu0
          clear hu0
          obtain ⟨u1, u2⟩ := u0
          cases hh : Maps.has D (klR (e1, e2))
          · go_wp2_with (at_lookup; refine wpList_lookup_held _ rfl _ _ 48 rfl 47 47 rfLaw Try.underlying48 (HZI.out _) bm nb D rfl HX1.out.mp _ _ rfl HK.out HVL.out hh ?_)
            exact ⟨⟨i + 1, by omega, by go_num, (HST.out _ (two_below wr (e1, e2) (u1, u2))).2.2 (HSM.out hh)⟩, by simp [intOf]; omega⟩
          · have hfu : f (e1, e2) = (u1, u2) := by
              have := HU0.out
              unfold lkR at this
              rw [hh, if_pos rfl] at this
              exact this
            rw [hfu] at HST
            go_upto_region 8 with (at_lookup; refine wpList_lookup_held _ rfl _ _ 48 rfl 47 47 rfLaw Try.underlying48 (HZI.out _) bm nb D rfl HX1.out.mp _ _ rfl HK.out HVL.out hh ?_)
            obtain ⟨⟨p0, p1, p2, p3⟩, hs, _⟩ := HST.out _ (two_below wr (e1, e2) (u1, u2))
            obtain ⟨b0, b1⟩ := two_cells wr (e1, e2) (u1, u2)
            have HS : Hid _ := hs
            clear hs HST HX1 c0 c1 f0 f1
            simp only at b0 b1
            generalize (wr.alloc _).alloc _ = W at *
            go_wp2
            exact ⟨⟨i + 1, by omega, by go_num, HS.out⟩, by simp [intOf]; omega⟩
        · have hit' : ¬ (i : Int) < (LN : Int) := by omega
          have HE : Hid (EX w0 wr base P o r m ms G f n8 (.slice (some ⟨lg, 0, none⟩) N lc) N bm nb D (k + 1) 0) := by
            have e : i = (leK G ms k).length := by have := HLK.out; omega
            rw [e] at hX
            exact ⟨hX.bs.next, hX.ls, hX.mp⟩
          clear hX
          go_wp2_with fail
          exact ⟨⟨k + 1, by omega, by go_num, HE.out⟩, by simp [intOf]; omega⟩
    · have hlt' : ¬ (k : Int) < (N : Int) := by omega
      have HE : Hid (BS w0 wr base P o r m ms G f N 0) := by
        have e : k = N := by omega
        rw [e] at hX
        exact hX.bs
      clear hX
      go_wp2_with fail
      refine bodyPost_end (results_none rfl _ _ _) rfl ⟨rfl, HE.out⟩
end Go.Proofs.Ythldaifnlnbpgaa.gr
namespace Go.Proofs.Ythldaifnlnbpgaa.gr
open Go.RowKit rows heads region Go.Maps
set_option maxRecDepth 100000
set_option linter.unusedVariables false
set_option linter.unusedSimpArgs false

theorem infoLR : (Try.prog.info? 28).map (fun i => (i.zero, i.size, i.bytes)) = some (some (.slice none 0 0), 1, 24) := by kernel_rfl
theorem tellVB {P : Program} {ops : Array Oper} {o : Oper} {D : Nat → Bool} {a0 : Act} {u : Nat → Value} {W W' : World} {Q : Exit → Act → World → Prop} {R : World → World → Prop} {F : Value → World → Prop} {dk : Nat} {v : Value} (hw : Region.wanted o (yielded ops (ovr D a0 u).tmps) = true) (hd : o.dst = some dk) (hD : D dk = true) (hrun : (execOp (ovr D a0 u).eval o).run P W = .ok (.value v) W') (hR : R W W') (hF : F v W') :
    (Region.wanted o (yielded ops (ovr D a0 u).tmps) = true ∧ o.wp P (ovr D a0 u) W (fun a' W' => ∃ v, a' = ovr D a0 (upd u dk v) ∧ R W W' ∧ F v W') Q) ∨ (Region.wanted o (yielded ops (ovr D a0 u).tmps) = false ∧ o.dst = some dk ∧ D dk = true ∧ F undef W) :=
  .inl ⟨hw, wp_value hrun ⟨v, put_in hd hD u v, hR, hF⟩⟩
def dLa0 (k : Nat) : Nat := match k with
  | 0 => 7
  | 1 => 8
  | 2 => 9
  | 3 => 10
  | 4 => 11
  | 5 => 12
  | 6 => 13
  | 7 => 14
  | 8 => 15
  | 9 => 4
  | _ => 2000
theorem dLa0_inj : ∀ k, k < 10 → ∀ j, j < 10 → dLa0 j = dLa0 k → j = k := by decide
def DLa0 (s : Nat) : Bool := s == 7 || s == 8 || s == 9 || s == 10 || s == 11 || s == 12 || s == 13 || s == 14 || s == 15 || s == 4
def FLa0 (P n0 : Nat) (a2 a3 : Option Addr) (n2 c2 n3 c3 : Nat) (k : Nat) (t : Value) (W : World) : Prop :=
  match k with
  | 0 => t = .pointer (some ⟨P, 0, none⟩)
  | 1 => t = .pointer (some ⟨P, 0, none⟩)
  | 2 => t = .pointer (some ⟨P, 1, none⟩)
  | 3 => t = .slice a2 n2 c2
  | 4 => t = .pointer (some ⟨P, 0, none⟩)
  | 5 => t = .pointer (some ⟨P, 0, none⟩)
  | 6 => t = .pointer (some ⟨P, 2, none⟩)
  | 7 => t = .slice a3 n3 c3
  | 8 => ∃ g, t = .slice (some ⟨g, 0, none⟩) 2 2 ∧ n0 ≤ g ∧ W.heap[g]? = some (.cells #[.slice a2 n2 c2, .slice a3 n3 c3] 28)
  | 9 => ∃ g, t = .slice (some ⟨g, 0, none⟩) 2 2 ∧ n0 ≤ g ∧ W.heap[g]? = some (.cells #[.slice a2 n2 c2, .slice a3 n3 c3] 28)
  | _ => False

set_option maxHeartbeats 16000000 in
theorem leadAnew_any {w0 w : World} {base P : Nat} {o r m : Value} {ms : List MO} {G : Gr} {f : Rf → Rf} {bm nb : Nat} {D : DataW Value} (h : BS w0 w base P o r m ms G f 0 0) (hmp : w.ownsMap Try.prog 47 heldR bm nb D) (hbm : w0.heap.size ≤ bm) (hr : Right G) (hM : RMap D f) :
    Calls Try.prog 41 #[.pointer (some ⟨P, 0, none⟩), .map (some bm)] w fun e w' => e = .returned (.tuple #[]) ∧ BS w0 w' base P o r m ms G f (ms.length + 2) 0 := by
  have hl : ms.length ≤ 200 := by have e : ms.length = G.objs.length := by rw [← h.abs]; simp
                                  have := (gOk_len hr.gOk).1
                                  omega
  obtain ⟨a2, c2, er0, -, -⟩ := h.form (k := 0) (by omega)
  obtain ⟨a3, c3, em0, -, -⟩ := h.form (k := 1) (by omega)
  have er : r = .slice a2 G.roots.length c2 := er0
  have em : m = .slice a3 G.mourned.length c3 := em0
  clear er0 em0
  obtain ⟨oa, oc, eo, hol, hoq⟩ := h.oform
  obtain ⟨n2, hn2⟩ : ∃ n2, G.roots.length = n2 := ⟨_, rfl⟩
  obtain ⟨n3, hn3⟩ : ∃ n3, G.mourned.length = n3 := ⟨_, rfl⟩
  rw [hn2] at er
  rw [hn3] at em
  subst er em eo
  have HFO : Hid (∀ k, k < ms.length → ∃ sa sn sc, (ms.getD k moD).sv = .slice sa sn sc) := fun k hk => by
    obtain ⟨a, c, e, _⟩ := h.form (k := k + 2) (by omega)
    exact ⟨a, _, c, e⟩
  have HT : Hid _ := h.T
  have HOQ : Hid _ := hoq
  have hw8 : w0.heap.size ≤ w.heap.size := h.bel.size
  have HB0 : Hid _ := h
  have HMP : Hid _ := hmp
  have HR : Hid _ := hr
  have HM : Hid _ := hM
  have HBM : Hid _ := hbm
  obtain ⟨-, z1, z2, -⟩ := five_cells h.T
  clear h hmp hr hM hoq hn2 hn3 hbm hol
  go_enter Try.func41, Try.ntmps41
  go_upto_region 0 with fail
  clear z1 z2
  generalize hA0 : (Act.mk _ []) = A0
  have e0 : A0.tmps.getD 0 undef = .pointer (some ⟨P, 0, none⟩) := by rw [← hA0]; rfl
  have sz : A0.tmps.size = 34 := by rw [← hA0]; rfl
  have ed : A0.defers = [] := by rw [← hA0]
  refine wp_region_guardedB (by kernel_rfl) DLa0 RelG relG_trans (relG_drew _) (by
      intro k o ho
      have hk : k < 10 := (Array.getElem?_eq_some_iff.1 ho).1
      rcases (show k = 0 ∨ k = 1 ∨ k = 2 ∨ k = 3 ∨ k = 4 ∨ k = 5 ∨ k = 6 ∨ k = 7 ∨ k = 8 ∨ k = 9 by omega) with rfl | rfl | rfl | rfl | rfl | rfl | rfl | rfl | rfl | rfl <;> (obtain rfl := Option.some.inj ho; simp [Region.binds])) 10 rfl dLa0 dLa0_inj (FLa0 P w.heap.size a2 a3 n2 c2 n3 c3) ?_ ?_ ?_
  · intro j t W W' hR h
    match j, h with
    | 0, h => exact h
    | 1, h => exact h
    | 2, h => exact h
    | 3, h => exact h
    | 4, h => exact h
    | 5, h => exact h
    | 6, h => exact h
    | 7, h => exact h
    | 8, h => exact by obtain ⟨g, e, hg, hb⟩ := h; exact ⟨g, e, hg, (hR.block g (lt_of_block hb)).trans hb⟩
    | 9, h => exact by obtain ⟨g, e, hg, hb⟩ := h; exact ⟨g, e, hg, (hR.block g (lt_of_block hb)).trans hb⟩
    | _ + 10, h => exact h.elim
  · intro j o u W hj ho hR hF
    have ev : ∀ s, DLa0 s = true → s < 34 → (ovr DLa0 A0 u).tmps[s]?.getD undef = u s := fun s h1 h2 => (getD_at _ _).symm.trans (eval_in h1 (by omega))
    have o0 : (ovr DLa0 A0 u).tmps[0]?.getD undef = _ := (getD_at _ _).symm.trans ((eval_out (D := DLa0) (a0 := A0) (u := u) (s := 0) rfl (by omega)).trans e0)
    obtain ⟨_, z1, z2, _⟩ := five_cells (five_below HT.out hR)
    rcases (show j = 0 ∨ j = 1 ∨ j = 2 ∨ j = 3 ∨ j = 4 ∨ j = 5 ∨ j = 6 ∨ j = 7 ∨ j = 8 ∨ j = 9 by omega) with rfl | rfl | rfl | rfl | rfl | rfl | rfl | rfl | rfl | rfl
    all_goals obtain rfl := Option.some.inj ho
    · refine tellVw (v := .pointer (some ⟨P, 0, none⟩)) (wanted_none rfl) ?_ ?_ ?_ (relG_refl _) ?_
      · exact rfl
      · exact rfl
      · simp only [execOp]
        go_simp
        try go_num
        try (rw [IntKind.wrap_i64]; omega)
      · exact rfl
    · have x0 := (ev 7 rfl (by decide)).trans (hF 0 (by decide) (by simp [Region.binds]))
      refine tellVw (v := .pointer (some ⟨P, 0, none⟩)) (wanted_none rfl) ?_ ?_ ?_ (relG_refl _) ?_
      · exact rfl
      · exact rfl
      · simp only [execOp]
        go_simp
        try go_num
        try (rw [IntKind.wrap_i64]; omega)
      · exact rfl
    · have x1 := (ev 8 rfl (by decide)).trans (hF 1 (by decide) (by simp [Region.binds]))
      refine tellVw (v := .pointer (some ⟨P, 1, none⟩)) (wanted_none rfl) ?_ ?_ ?_ (relG_refl _) ?_
      · exact rfl
      · exact rfl
      · simp only [execOp]
        go_simp
        try go_num
        try (rw [IntKind.wrap_i64]; omega)
      · exact rfl
    · have x2 := (ev 9 rfl (by decide)).trans (hF 2 (by decide) (by simp [Region.binds]))
      refine tellVw (v := .slice a2 n2 c2) (wanted_none rfl) ?_ ?_ ?_ (relG_refl _) ?_
      · exact rfl
      · exact rfl
      · simp only [execOp]
        go_simp
        try go_num
        try (rw [IntKind.wrap_i64]; omega)
      · exact rfl
    · refine tellVw (v := .pointer (some ⟨P, 0, none⟩)) (wanted_none rfl) ?_ ?_ ?_ (relG_refl _) ?_
      · exact rfl
      · exact rfl
      · simp only [execOp]
        go_simp
        try go_num
        try (rw [IntKind.wrap_i64]; omega)
      · exact rfl
    · have x4 := (ev 11 rfl (by decide)).trans (hF 4 (by decide) (by simp [Region.binds]))
      refine tellVw (v := .pointer (some ⟨P, 0, none⟩)) (wanted_none rfl) ?_ ?_ ?_ (relG_refl _) ?_
      · exact rfl
      · exact rfl
      · simp only [execOp]
        go_simp
        try go_num
        try (rw [IntKind.wrap_i64]; omega)
      · exact rfl
    · have x5 := (ev 12 rfl (by decide)).trans (hF 5 (by decide) (by simp [Region.binds]))
      refine tellVw (v := .pointer (some ⟨P, 2, none⟩)) (wanted_none rfl) ?_ ?_ ?_ (relG_refl _) ?_
      · exact rfl
      · exact rfl
      · simp only [execOp]
        go_simp
        try go_num
        try (rw [IntKind.wrap_i64]; omega)
      · exact rfl
    · have x6 := (ev 13 rfl (by decide)).trans (hF 6 (by decide) (by simp [Region.binds]))
      refine tellVw (v := .slice a3 n3 c3) (wanted_none rfl) ?_ ?_ ?_ (relG_refl _) ?_
      · exact rfl
      · exact rfl
      · simp only [execOp]
        go_simp
        try go_num
        try (rw [IntKind.wrap_i64]; omega)
      · exact rfl
    · have x3 := (ev 10 rfl (by decide)).trans (hF 3 (by decide) (by simp [Region.binds]))
      have x7 := (ev 14 rfl (by decide)).trans (hF 7 (by decide) (by simp [Region.binds]))
      refine tellVB (v := .slice (some ⟨W.heap.size, 0, none⟩) 2 2) (W' := W.alloc (.cells #[.slice a2 n2 c2, .slice a3 n3 c3] 28)) (wanted_none rfl) rfl rfl ?_ ((Below.refl _ _).alloc (Nat.le_refl _) _) ⟨W.heap.size, rfl, hR.size, heap_alloc_new _ _⟩
      simp only [execOp]
      go_simp
    · obtain ⟨g, ea, hg, hb⟩ := hF 8 (by decide) (by simp [Region.binds])
      have x8 := (ev 15 rfl (by decide)).trans ea
      refine tellVw (v := .slice (some ⟨g, 0, none⟩) 2 2) (wanted_none rfl) rfl rfl ?_ (relG_refl _) ⟨g, rfl, hg, hb⟩
      simp only [execOp]
      go_simp
  · intro u W hR hF
    have f8 := hF 8 (by decide)
    have f9 := hF 9 (by decide)
    obtain ⟨gx, ex, _, _⟩ := f8
    obtain ⟨gl, el, hgl, hbl⟩ := f9
    have ex : u 15 = _ := ex
    have el : u 4 = _ := el
    have h7 : u 7 = _ := hF 0 (by decide)
    have h8 : u 8 = _ := hF 1 (by decide)
    have h9 : u 9 = _ := hF 2 (by decide)
    have h10 : u 10 = _ := hF 3 (by decide)
    have h11 : u 11 = _ := hF 4 (by decide)
    have h12 : u 12 = _ := hF 5 (by decide)
    have h13 : u 13 = _ := hF 6 (by decide)
    have h14 : u 14 = _ := hF 7 (by decide)
    have HGL : Hid _ := hbl
    have HRW : Hid (Below w.heap.size w W) := hR
    clear hF hbl hR sz ed e0
    subst hA0
    simp [ovr, DLa0, List.range, List.range.loop, ex, el, h7, h8, h9, h10, h11, h12, h13, h14]
    clear ex el h7 h8 h9 h10 h11 h12 h13 h14
    have HL0 : Hid (W.ownsRow w.heap.size 28 1 (.slice (some ⟨gl, 0, none⟩) 2 2) (0 + 2) (vsR (.slice a2 n2 c2) (.slice a3 n3 c3) ms (0 + 2))) := ⟨rfl, .inr ⟨gl, 2, #[.slice a2 n2 c2, .slice a3 n3 c3], rfl, hgl, HGL.out, Nat.le_refl _, by decide, rfl, rfl⟩⟩
    obtain ⟨z0, _⟩ := five_cells (five_below HT.out HRW.out)
    have HBW0 : Hid (Below w.heap.size w W) := HRW.out
    clear HGL HRW hgl
    go_wp2_with fail
    clear z0
    go_loopw [4, 6, 21] (fun v4 _ v wr => ∃ y : Nat, y ≤ ms.length ∧ v = .int .i64 (y : Int) ∧ ∃ u4, u4 = v4 ∧ wr.ownsRow w.heap.size 28 1 u4 (y + 2) (vsR (.slice a2 n2 c2) (.slice a3 n3 c3) ms (y + 2)) ∧ Below w.heap.size w wr) (fun _ _ v _ => ms.length - (intOf v).toNat)
    case atStart => exact ⟨0, Nat.zero_le _, rfl, _, rfl, HL0.out, HBW0.out⟩
    case round =>
      obtain ⟨y, hy, rfl, u4, rfl, hLL, hB⟩ := hrel
      clear HL0 HBW0
      have HLL : Hid _ := hLL
      have HBR : Hid _ := hB
      have hszr := hB.size
      by_cases hlt : y < ms.length
      · have hlt' : (y : Int) < (ms.length : Int) := by omega
        obtain ⟨g0, e⟩ := HOQ.out (by omega)
        subst e
        have hBS := HB0.out.below HBR.out
        obtain ⟨ao, co, eo, _, _, _, hco⟩ := hBS.obj
        injection eo with e1 e2 e3
        subst e1
        obtain ⟨b', off', e4, _, hcc⟩ := hco (by omega)
        injection e4 with e4
        injection e4 with e4 e5
        subst e4 e5
        obtain ⟨x0, x1, x2, x3, x4⟩ := hcc y hlt
        simp only [Nat.zero_add] at x0 x1 x2 x3 x4
        obtain ⟨sa, sn, sc, hsv⟩ := HFO.out y hlt
        rw [hsv] at x4
        have HNX : Hid _ := @vsR_next (.slice a2 n2 c2) (.slice a3 n3 c3) ms (y + 2)
        rw [show lvK (.slice a2 n2 c2) (.slice a3 n3 c3) ms (y + 2) = .slice sa sn sc from hsv] at HNX
        have hvl : (vsR (.slice a2 n2 c2) (.slice a3 n3 c3) ms (y + 2)).length = y + 2 := vsR_len
        obtain ⟨lk2, hlk2⟩ : ∃ lk2, vsR (.slice a2 n2 c2) (.slice a3 n3 c3) ms (y + 2 + 1) = lk2 := ⟨_, rfl⟩
        rw [hlk2] at HNX
        have HLK : Hid (vsR (.slice a2 n2 c2) (.slice a3 n3 c3) ms (y + 1 + 2) = lk2) := hlk2
        clear hlk2 hB hLL hBS hco hcc hsv e2 e3
        generalize vsR (.slice a2 n2 c2) (.slice a3 n3 c3) ms (y + 2) = lk at *
        generalize (ms.getD y moD).id = mi at *
        generalize (ms.getD y moD).cls = mc at *
        generalize (ms.getD y moD).fmt = mf at *
        generalize (ms.getD y moD).hash = mh at *
        go_upto_region 4 with fail
        clear x0 x1 x2 x3 x4
        have BY : Below wr.heap.size wr (wr.alloc (.cells #[.int .i64 mi, .int .i64 mc, .int .i64 mf, .int .i64 mh, .slice sa sn sc] 59)) := (Below.refl _ _).alloc (Nat.le_refl _) _
        have TY := five_new wr 59 (.int .i64 mi) (.int .i64 mc) (.int .i64 mf) (.int .i64 mh) (.slice sa sn sc)
        have HBY : Hid _ := HBR.out.trans (BY.mono hszr)
        have HLY : Hid _ := row_ch (S := []) HLL.out (ch_below BY) (by simp)
        obtain ⟨_, _, _, _, p4, _⟩ := five_cells TY
        clear BY TY
        generalize wr.alloc (.cells #[.int .i64 mi, .int .i64 mc, .int .i64 mf, .int .i64 mh, .slice sa sn sc] 59) = Y at *
        obtain ⟨i0, hi, hz0, hz1, hz2⟩ := info_parts infoLR
        have HI0 : Hid _ := And.intro hi (And.intro hz0 (And.intro hz1 hz2))
        have HAFT : Hid (∃ (g c : Nat), u4 = .slice (some ⟨g, 0, none⟩) (y + 2) c ∧ (Y.alloc (.cells #[.slice sa sn sc] 28)).ownsRow w.heap.size 28 1 (.slice (some ⟨g, 0, none⟩) (y + 2) c) (y + 2) lk ∧ w.heap.size ≤ (Y.alloc (.cells #[.slice sa sn sc] 28)).heap.size ∧ (∀ i u, [Value.slice sa sn sc][i]? = some u → (Y.alloc (.cells #[.slice sa sn sc] 28)).cell? ((⟨Y.heap.size, 0, none⟩ : Addr).add i) = some u) ∧ ∀ v' w6, w6.ownsRow w.heap.size 28 1 v' (y + 2 + 1) (lk ++ [.slice sa sn sc]) → (Y.alloc (.cells #[.slice sa sn sc] 28)).grownBy w6 (some g) → (∃ va vn vc, v' = .slice va vn vc) ∧ w6.ownsRow w.heap.size 28 1 v' (y + 1 + 2) lk2 ∧ Below w.heap.size w w6) := by
          have h2 := HLY.out
          have B6 : Below w.heap.size w (Y.alloc (.cells #[.slice sa sn sc] 28)) := HBY.out.alloc HBY.out.size _
          have h2' := row_ch (S := []) h2 (ch_below ((Below.refl Y.heap.size Y).alloc (Nat.le_refl _) (.cells #[.slice sa sn sc] 28))) (by simp)
          obtain ⟨_, ⟨e1, e2⟩ | ⟨g, c, cur, e1, hg, _⟩⟩ := h2
          · omega
          · rw [e1] at h2'
            refine ⟨g, c, e1, h2', B6.size, World.news_of_block (heap_alloc_new Y (.cells #[.slice sa sn sc] 28)), fun v' w6 o6 g6 => ⟨?_, ?_, ?_⟩⟩
            · obtain ⟨_, ⟨f1, f2⟩ | ⟨g', c', cur', f1, _⟩⟩ := o6
              · omega
              · exact ⟨_, _, _, f1⟩
            · rw [HNX.out]; exact o6
            · exact B6.grown g6 B6.size (fun k hk => by injection hk with hk; omega)
        obtain ⟨ag, ac, eu3, hown5, hba, hnw, haft⟩ := HAFT.out
        subst eu3
        have HOW : Hid _ := hown5
        have HNW : Hid _ := hnw
        have HAF : Hid _ := haft
        clear HLY HLL HAFT hown5 hnw haft hi hz0 hz1 hz2
        go_wp2_with (refine wpList_append_own_at _ rfl (.tmp 25) (.tmp 28) 79 rfl w.heap.size 28 i0 (.slice none 0 0) 1 24 Try.underlying79 HI0.out.1 HI0.out.2.1 HI0.out.2.2.1 HI0.out.2.2.2 rfl (by decide) (.slice (some ⟨ag, 0, none⟩) (y + 2) ac) (y + 2) lk rfl HOW.out ⟨Y.heap.size, 0, none⟩ 1 1 [.slice sa sn sc] rfl rfl HNW.out (by simp [Value.oneCell']) (by unfold maxLen; omega) (by omega) hba ?_; intro v' w6 hown6 hgrow6 _ hat6; obtain ⟨⟨va, vn, vc, rfl⟩, st⟩ := HAF.out v' w6 hown6 hgrow6; have HST : Hid _ := st; clear st hown6 hgrow6 hat6)
        exact ⟨⟨y + 1, by omega, by go_num, _, rfl, by rw [HLK.out]; exact HST.out.1, HST.out.2⟩, by simp [intOf]; omega⟩
      · have hlt' : ¬ (y : Int) < (ms.length : Int) := by omega
        have e : y = ms.length := by omega
        subst e
        clear hB hLL
        obtain ⟨lg, lc, eu4⟩ : ∃ lg lc, u4 = .slice (some ⟨lg, 0, none⟩) (ms.length + 2) lc := by
          obtain ⟨_, ⟨e1, e2⟩ | ⟨g, c, cur, e1, hg, _⟩⟩ := HLL.out
          · omega
          · exact ⟨g, c, e1⟩
        subst eu4
        have HEX : Hid (EX w0 wr base P (.slice oa ms.length oc) (.slice a2 n2 c2) (.slice a3 n3 c3) ms G f w.heap.size (.slice (some ⟨lg, 0, none⟩) (ms.length + 2) lc) (ms.length + 2) bm nb D 0 0) := ⟨HB0.out.below HBR.out, HLL.out, World.ownsMap.kept (row := none) HMP.out ⟨HBR.out.os, HBR.out.tape, HBR.out.output, HBR.out.size, fun k hk _ => HBR.out.block k hk⟩ (by simp)⟩
        have EXC := exchangeR_any HEX.out hw8 HBM.out HR.out HM.out (by omega)
        clear HLL HBR
        go_wp2_with (go_at_call 49; refine EXC.mono ?_; clear EXC; rintro e w9 ⟨rfl, h9⟩; have HE : Hid _ := h9; clear h9)
        exact bodyPost_end (results_none rfl _ _ _) rfl ⟨rfl, HE.out⟩
end Go.Proofs.Ythldaifnlnbpgaa.gr
namespace Go.Proofs.Ythldaifnlnbpgaa.gr
open Go.RowKit rows heads region Go.Maps
set_option maxRecDepth 100000
set_option linter.unusedVariables false
set_option linter.unusedSimpArgs false

/-- A map of refs of the call's own. -/
def MapMade (W w' : World) (e' : Ending) (f : Rf → Rf) : Prop := ∃ bm nb D, e' = .returned (.map (some bm)) ∧ w'.ownsMap Try.prog 47 heldR bm nb D ∧ RMap D f ∧ W.heap.size ≤ bm ∧ Below W.heap.size W w'
theorem wpList_insert_own {P : Program} {w : World} {ops : Array Oper} {rest : List Oper} {o : Oper} {a : Act} {Q : Exit → Act → World → Prop} (hg : o.guard = none) (m x v : Operand) (t : TypeId)
    (ho : o.op = Op.insert t m x v) (k e : TypeId) (Ky : Keyed P k) (ht : P.underlying t = some (.map k e)) (R : Value → Option (DataW Value × List MemPlace)) (b n : Nat) (D : DataW Value)
    (hm : a.eval m = .map (some b)) (hown : w.ownsMap P k R b n D) (hn : n < maxLen) (key val : Value) (kl : Lit) (hx : a.eval x = key) (hv : a.eval v = val) (hkey : keyOf P k key = some kl) (d : DataW Value) (ps : List MemPlace) (hval : R val = some (d, ps))
    (h : ∀ w', w'.ownsMap P k R b (n + 1) (D.put kl d) → w.grownBy w' (some b) → wpList P ops Q rest (a.put o.dst undef) w') : wpList P ops Q (o :: rest) a w := by
  refine wpList_plain hg fun K hK => ?_
  obtain ⟨w', hrun, r1, r2⟩ := hown.update Ky ht hn hkey hval
  unfold Oper.wp
  simp [execOp, ho, hm, hx, hv, hrun, Result.andThen]
  exact hK _ _ (h w' r1 r2)
theorem box_cells (w : World) (e u : Rf) : ((w.alloc (rb e)).alloc (rb u)).cell? ⟨w.heap.size, 0, none⟩ = some (.int .i64 e.1) ∧ ((w.alloc (rb e)).alloc (rb u)).cell? ⟨w.heap.size, 1, none⟩ = some (.int .i64 e.2) := by
  have h : ((w.alloc (rb e)).alloc (rb u)).heap[w.heap.size]? = some (rb e) := (Below.heap_alloc (w.alloc (rb e)) (rb u) _ (by simp)).trans (heap_alloc_new w _)
  exact ⟨by simp only [World.cell?, h]; rfl, by simp only [World.cell?, h]; rfl⟩
theorem bRef_one {X Y : Int} (both : Bool) : bRef X Y both (2, X) = (2, Y) := by unfold bRef; rw [if_pos (by simp)]
theorem bRef_two {X Y : Int} (hne : X ≠ Y) : bRef X Y true (2, Y) = (2, X) := by unfold bRef; rw [if_neg (by simp; exact fun e => hne e.symm), if_pos (by simp)]
theorem bRef_no {X Y : Int} {both : Bool} {r : Rf} (h1 : r ≠ (2, X)) (h2 : both = true → r ≠ (2, Y)) : bRef X Y both r = r := by
  obtain ⟨k, n⟩ := r
  unfold bRef
  rw [if_neg (fun h => h1 (by simp only [Bool.and_eq_true, beq_iff_eq] at h; rw [h.1, h.2])), if_neg (fun h => by simp only [Bool.and_eq_true, beq_iff_eq] at h; exact h2 h.2 (by rw [h.1.1, h.1.2]))]

set_option maxHeartbeats 4000000 in
theorem cReplMap_any {w : World} {X Y : Int} (hx : wfR (2, X)) (hy : wfR (2, Y)) :
    Calls Try.prog 29 #[rv (2, X), rv (2, Y)] w fun e w' => MapMade w w' e (bRef X Y false) := by
  have HK1 : Hid _ := rf_key hx
  have HRM : Hid (RMap ((DataW.map [] : DataW Value).put (klR (2, X)) (.held (rv (2, Y)))) (bRef X Y false)) := rmap_one hx (bRef_one false) (fun r h => bRef_no h (fun e => by cases e))
  have HB0 : Hid _ := two_below w (2, X) (2, Y)
  obtain ⟨p0, p1⟩ := two_cells w (2, X) (2, Y)
  obtain ⟨o0, o1⟩ := box_cells w (2, X) (2, Y)
  have hs : w.heap.size + 2 ≤ ((w.alloc (rb (2, X))).alloc (rb (2, Y))).heap.size := by simp
  simp only at p0 p1 o0 o1
  clear hx hy
  have hmm := @run_makeMap Try.prog
  go_enter Try.func29, Try.ntmps29
  go_upto_region 1 with fail
  generalize (w.alloc _).alloc _ = V at *
  have BM : Below V.heap.size V (V.alloc (.map #[] 0)) := (Below.refl _ _).alloc (Nat.le_refl _) _
  have HM0 : Hid (World.ownsMap (V.alloc (.map #[] 0)) Try.prog 47 heldR V.heap.size 0 (.map [])) := World.ownsMap_made V Try.prog 47 heldR
  have HB1 : Hid (Below w.heap.size w (V.alloc (.map #[] 0))) := HB0.out.trans (BM.mono HB0.out.size)
  have q0 := (BM.cell (p := ⟨w.heap.size, 0, none⟩) (by show w.heap.size < _; omega)).trans o0
  have q1 := (BM.cell (p := ⟨w.heap.size, 1, none⟩) (by show w.heap.size < _; omega)).trans o1
  have q2 := (BM.cell (p := ⟨w.heap.size + 1, 0, none⟩) (by show w.heap.size + 1 < _; omega)).trans p0
  have q3 := (BM.cell (p := ⟨w.heap.size + 1, 1, none⟩) (by show w.heap.size + 1 < _; omega)).trans p1
  have hle : w.heap.size ≤ V.heap.size := by omega
  have hsv : w.heap.size ≤ (V.alloc (.map #[] 0)).heap.size := by simp; omega
  clear o0 o1 p0 p1 BM HB0
  go_wp2_with (refine wpList_insert_own rfl _ _ _ 48 rfl 47 47 rfLaw Try.underlying48 heldR V.heap.size 0 (.map []) rfl HM0.out (by unfold maxLen; omega) (rv (2, X)) (rv (2, Y)) _ rfl rfl HK1.out (.held (rv (2, Y))) [] rfl ?_; intro w1 ho1 hg1; have HO1 : Hid _ := ho1; have HG1 : Hid _ := hg1; clear ho1 hg1)
  go_ret
  exact ⟨_, _, _, rfl, HO1.out, HRM.out, hle, HB1.out.grown HG1.out hsv (fun k e => by injection e with e; omega)⟩

def dGm (k : Nat) : Nat := match k with
  | 0 => 5
  | 1 => 6
  | 2 => 7
  | 3 => 100
  | 4 => 8
  | 5 => 9
  | 6 => 101
  | 7 => 10
  | 8 => 4
  | _ => 2000
theorem dGm_inj : ∀ k, k < 9 → ∀ j, j < 9 → dGm j = dGm k → j = k := by decide
def DGm (s : Nat) : Bool := decide (4 ≤ s) && decide (s ≤ 10)
def FGm (b : Nat) (e u : Rf) (k : Nat) (t : Value) : Prop :=
  match k with
  | 0 => t = .map (some b)
  | 1 => t = rv e
  | 2 => t = rv u
  | 3 => True
  | 4 => t = rv u
  | 5 => t = rv e
  | 6 => True
  | 7 => t = .map (some b)
  | 8 => t = .map (some b)
  | _ => False
def put1 (e u : Rf) (D : DataW Value) : DataW Value := D.put (klR e) (.held (rv u))
/-- What the map holds, when this and that is in it. -/
def DGs (e u : Rf) (x y : Bool) (n : Nat) (D : DataW Value) : Prop :=
  match x, y with
  | false, false => n = 0 ∧ D = .map []
  | true, false => n = 1 ∧ D = put1 e u (.map [])
  | false, true => n = 1 ∧ D = put1 u e (.map [])
  | true, true => n = 2 ∧ (D = put1 u e (put1 e u (.map [])) ∨ D = put1 e u (put1 u e (.map [])))
theorem DGs.le {e u : Rf} {x y : Bool} {n : Nat} {D : DataW Value} (h : DGs e u x y n D) : n ≤ 2 := by
  cases x <;> cases y <;> (have := h.1; omega)
theorem DGs.one {e u : Rf} {y : Bool} {n : Nat} {D : DataW Value} (h : DGs e u false y n D) : DGs e u true y (n + 1) (put1 e u D) := by
  cases y
  · obtain ⟨h1, h2⟩ := h
    exact ⟨by omega, by rw [h2]⟩
  · obtain ⟨h1, h2⟩ := h
    exact ⟨by omega, .inr (by rw [h2])⟩
theorem DGs.two {e u : Rf} {x : Bool} {n : Nat} {D : DataW Value} (h : DGs e u x false n D) : DGs e u x true (n + 1) (put1 u e D) := by
  cases x
  · obtain ⟨h1, h2⟩ := h
    exact ⟨by omega, by rw [h2]⟩
  · obtain ⟨h1, h2⟩ := h
    exact ⟨by omega, .inl (by rw [h2])⟩
/-- What holds while the map is made. -/
structure GmI (V : World) (e u : Rf) (l : Array Bool) (uu : Nat → Value) (W : World) : Prop where
  facts : ∀ k, k < 9 → l.getD k false = true → FGm V.heap.size e u k (uu (dGm k))
  below : Below V.heap.size V W
  fresh : l.getD 0 false = false → W.heap.size = V.heap.size ∧ l.getD 3 false = false ∧ l.getD 6 false = false
  map : l.getD 0 false = true → ∃ n D, W.ownsMap Try.prog 47 heldR V.heap.size n D ∧ DGs e u (l.getD 3 false) (l.getD 6 false) n D
theorem GmI.value {V : World} {e u : Rf} {l : Array Bool} {uu : Nat → Value} {W : World} (h : GmI V e u l uu W) {k : Nat} (hl : k < l.size) (hk : k < 9) (h0 : k ≠ 0) (h3 : k ≠ 3) (h6 : k ≠ 6) {v : Value} (hv : FGm V.heap.size e u k v) : GmI V e u (l.setIfInBounds k true) (upd uu (dGm k) v) W := by
  have e0 : (l.setIfInBounds k true).getD 0 false = l.getD 0 false := getD_other l h0
  have e3 : (l.setIfInBounds k true).getD 3 false = l.getD 3 false := getD_other l h3
  have e6 : (l.setIfInBounds k true).getD 6 false = l.getD 6 false := getD_other l h6
  refine ⟨facts_put (n := 9) (F := fun k t _ => FGm V.heap.size e u k t) (w := W) (w' := W) (dGm_inj k hk) h.facts (fun _ _ _ _ _ z => z) hv, h.below, ?_, ?_⟩
  · rw [e0, e3, e6]; exact h.fresh
  · rw [e0, e3, e6]; exact h.map
theorem GmI.made {V : World} {e u : Rf} {l : Array Bool} {uu : Nat → Value} {W : World} (h : GmI V e u l uu W) (hl : 0 < l.size) (h0 : l.getD 0 false = false) : GmI V e u (l.setIfInBounds 0 true) (upd uu (dGm 0) (.map (some W.heap.size))) (W.alloc (.map #[] 0)) := by
  obtain ⟨hs, h3, h6⟩ := h.fresh h0
  have e0 : (l.setIfInBounds 0 true).getD 0 false = true := listed_ne hl
  have e3 : (l.setIfInBounds 0 true).getD 3 false = l.getD 3 false := getD_other l (by decide)
  have e6 : (l.setIfInBounds 0 true).getD 6 false = l.getD 6 false := getD_other l (by decide)
  refine ⟨facts_put (n := 9) (F := fun k t _ => FGm V.heap.size e u k t) (w := W) (w' := W) (dGm_inj 0 (by decide)) h.facts (fun _ _ _ _ _ z => z) (by rw [hs]; rfl), h.below.alloc (by omega) _, (fun q => by rw [e0] at q; cases q), fun _ => ⟨0, .map [], ?_, ?_⟩⟩
  · rw [← hs]; exact World.ownsMap_made W Try.prog 47 heldR
  · rw [e3, e6, h3, h6]; exact ⟨rfl, rfl⟩
theorem GmI.ins {V : World} {e u : Rf} {l : Array Bool} {uu : Nat → Value} {W W' : World} (h : GmI V e u l uu W) {k : Nat} (hk : k = 3 ∨ k = 6) (hl : k < l.size) (h0 : l.getD 0 false = true) (hg : W.grownBy W' (some V.heap.size)) {n : Nat} {D : DataW Value} (ho : W'.ownsMap Try.prog 47 heldR V.heap.size n D) (hd : DGs e u (if k = 3 then true else l.getD 3 false) (if k = 6 then true else l.getD 6 false) n D) : GmI V e u (l.setIfInBounds k true) uu W' := by
  have e0 : (l.setIfInBounds k true).getD 0 false = l.getD 0 false := getD_other l (by omega)
  refine ⟨fun j hj hlj => ?_, h.below.grown hg h.below.size (fun x q => by injection q with q; omega), (fun q => by rw [e0, h0] at q; cases q), fun _ => ⟨n, D, ho, ?_⟩⟩
  · by_cases ej : j = k
    · subst ej
      rcases hk with rfl | rfl <;> trivial
    · rw [getD_other l (Ne.symm ej)] at hlj
      exact h.facts j hj hlj
  · rcases hk with rfl | rfl
    · rw [listed_ne hl, getD_other l (show ¬ (3 : Nat) = 6 by decide)]
      rw [if_pos rfl, if_neg (by decide)] at hd
      exact hd
    · rw [listed_ne hl, getD_other l (show ¬ (6 : Nat) = 3 by decide)]
      rw [if_pos rfl, if_neg (by decide)] at hd
      exact hd
set_option maxHeartbeats 8000000 in
theorem cSwapMap_any {w : World} {X Y : Int} (hx : wfR (2, X)) (hy : wfR (2, Y)) (hne : X ≠ Y) :
    Calls Try.prog 22 #[rv (2, X), rv (2, Y)] w fun e w' => MapMade w w' e (bRef X Y true) := by
  obtain ⟨e, he⟩ : ∃ e : Rf, ((2, X) : Rf) = e := ⟨_, rfl⟩
  obtain ⟨u, hu⟩ : ∃ u : Rf, ((2, Y) : Rf) = u := ⟨_, rfl⟩
  have hne2 : e ≠ u := fun q => hne (by rw [← he, ← hu] at q; injection q)
  have f1 : bRef X Y true e = u := by rw [← he, ← hu]; exact bRef_one true
  have f2 : bRef X Y true u = e := by rw [← he, ← hu]; exact bRef_two hne
  have f3 : ∀ r, r ≠ e → r ≠ u → bRef X Y true r = r := fun r h1 h2 => bRef_no (by rw [he]; exact h1) (fun _ => by rw [hu]; exact h2)
  rw [he] at hx
  rw [hu] at hy
  have HK1 : Hid _ := rf_key hx
  have HK2 : Hid _ := rf_key hy
  have HRM : Hid (∀ n D, DGs e u true true n D → RMap D (bRef X Y true)) := fun n D h => by
    obtain ⟨_, h | h⟩ := h
    · rw [h]; exact rmap_two hx hy hne2 f1 f2 f3
    · rw [h]; exact rmap_two hy hx (Ne.symm hne2) f2 f1 (fun r h1 h2 => f3 r h2 h1)
  have HB0 : Hid _ := two_below w e u
  obtain ⟨p0, p1⟩ := two_cells w e u
  obtain ⟨o0, o1⟩ := box_cells w e u
  have hs : w.heap.size + 2 ≤ ((w.alloc (rb e)).alloc (rb u)).heap.size := by simp
  rw [he, hu]
  clear hx hy hne hne2 f1 f2 f3 he hu
  obtain ⟨e1, e2⟩ := e
  obtain ⟨u1, u2⟩ := u
  have hmm := @run_makeMap Try.prog
  go_enter Try.func22, Try.ntmps22
  go_upto_region 1 with fail
  simp only at p0 p1 o0 o1
  generalize (w.alloc _).alloc _ = V at *
  generalize hA0 : (Act.mk _ []) = A0
  have e2' : A0.tmps.getD 2 undef = .pointer (some ⟨w.heap.size, 0, none⟩) := by rw [← hA0]; rfl
  have e3' : A0.tmps.getD 3 undef = .pointer (some ⟨w.heap.size + 1, 0, none⟩) := by rw [← hA0]; rfl
  have sz : A0.tmps.size = 11 := by rw [← hA0]; rfl
  have start : GmI V (e1, e2) (u1, u2) (Array.replicate 9 false) (fun s => A0.tmps.getD s undef) V.drew := by
    have z : ∀ k, (Array.replicate 9 false).getD k false = false := fun k => by
      rw [Array.getD_eq_getD_getElem?, Array.getElem?_replicate]; split <;> rfl
    exact ⟨(fun k _ e => by rw [z] at e; cases e), (Below.refl _ _).drew, fun _ => ⟨rfl, z 3, z 6⟩, fun e => by rw [z] at e; cases e⟩
  refine wp_region_bind (by kernel_rfl) DGm (by simp) ?_ (GmI V (e1, e2) (u1, u2)) start ?_ ?_
  · intro k o ho
    have hk : k < 9 := (Array.getElem?_eq_some_iff.1 ho).1
    rcases (show k = 0 ∨ k = 1 ∨ k = 2 ∨ k = 3 ∨ k = 4 ∨ k = 5 ∨ k = 6 ∨ k = 7 ∨ k = 8 by omega) with rfl | rfl | rfl | rfl | rfl | rfl | rfl | rfl | rfl <;> (obtain rfl := Option.some.inj ho; simp [Region.binds])
  · intro l uu W hI hA
    obtain ⟨n, D, ho, hd⟩ := hI.map (hA 0 (by simp))
    rw [hA 3 (by simp), hA 6 (by simp)] at hd
    have HO : Hid _ := ho
    have HR : Hid _ := HRM.out n D hd
    have HB : Hid (Below w.heap.size w W) := HB0.out.trans (hI.below.mono HB0.out.size)
    have h4 : uu 4 = _ := hI.facts 8 (by decide) (hA 8 (by simp))
    have hle : w.heap.size ≤ V.heap.size := by omega
    clear hI hA start ho hd e2' e3'
    subst hA0
    simp [ovr, DGm, List.range, List.range.loop, h4]
    go_wp2
    go_ret
    exact ⟨_, _, _, rfl, HO.out, HR.out, hle, HB.out⟩
  · intro l uu W k o hI hl hlk ho hd
    have hk : k < 9 := (Array.getElem?_eq_some_iff.1 ho).1
    have hl' : l.size = 9 := hl
    have ev : ∀ s, DGm s = true → s < 11 → (ovr DGm A0 uu).tmps[s]?.getD undef = uu s := fun s h1 h2 => (getD_at _ _).symm.trans (eval_in h1 (by omega))
    have o2 : (ovr DGm A0 uu).tmps[2]?.getD undef = _ := (getD_at _ _).symm.trans ((eval_out (D := DGm) (a0 := A0) (u := uu) (s := 2) rfl (by omega)).trans e2')
    have o3 : (ovr DGm A0 uu).tmps[3]?.getD undef = _ := (getD_at _ _).symm.trans ((eval_out (D := DGm) (a0 := A0) (u := uu) (s := 3) rfl (by omega)).trans e3')
    have c0 := (hI.below.cell (p := ⟨w.heap.size, 0, none⟩) (by show w.heap.size < _; omega)).trans o0
    have c1 := (hI.below.cell (p := ⟨w.heap.size, 1, none⟩) (by show w.heap.size < _; omega)).trans o1
    have c2 := (hI.below.cell (p := ⟨w.heap.size + 1, 0, none⟩) (by show w.heap.size + 1 < _; omega)).trans p0
    have c3 := (hI.below.cell (p := ⟨w.heap.size + 1, 1, none⟩) (by show w.heap.size + 1 < _; omega)).trans p1
    rcases (show k = 0 ∨ k = 1 ∨ k = 2 ∨ k = 3 ∨ k = 4 ∨ k = 5 ∨ k = 6 ∨ k = 7 ∨ k = 8 by omega) with rfl | rfl | rfl | rfl | rfl | rfl | rfl | rfl | rfl
    all_goals obtain rfl := Option.some.inj ho
    · refine wp_value (v := .map (some W.heap.size)) (w' := W.alloc (.map #[] 0)) ?_ ⟨_, put_in (d := 5) rfl rfl uu _, hI.made (by omega) hlk⟩
      simp only [execOp]
      go_simp
      all_goals (try (rw [hmm]; rfl))
    · refine wp_value (v := rv (e1, e2)) ?_ ⟨_, put_in (d := 6) rfl rfl uu _, hI.value (by omega) (by decide) (by decide) (by decide) (by decide) rfl⟩
      simp only [execOp]
      go_simp
    · refine wp_value (v := rv (u1, u2)) ?_ ⟨_, put_in (d := 7) rfl rfl uu _, hI.value (by omega) (by decide) (by decide) (by decide) (by decide) rfl⟩
      simp only [execOp]
      go_simp
    · have h0 := hd ⟨0, .data⟩ (by simp) (by simp [Region.binds])
      have x0 := (ev 5 rfl (by decide)).trans (hI.facts 0 (by decide) h0)
      have x1 := (ev 6 rfl (by decide)).trans (hI.facts 1 (by decide) (hd ⟨1, .data⟩ (by simp) (by simp [Region.binds])))
      have x2 := (ev 7 rfl (by decide)).trans (hI.facts 2 (by decide) (hd ⟨2, .data⟩ (by simp) (by simp [Region.binds])))
      obtain ⟨n, D, hown, hds⟩ := hI.map h0
      obtain ⟨W2, hrun, r1, r2⟩ := World.ownsMap.update hown rfLaw Try.underlying48 (by have := hds.le; unfold maxLen; omega) HK1.out (show heldR (rv (u1, u2)) = some (.held (rv (u1, u2)), []) from rfl)
      rw [hlk] at hds
      refine wp_skipped (w' := W2) ?_ ⟨uu, put_no rfl uu undef, hI.ins (k := 3) (.inl rfl) (by omega) h0 r2 r1 hds.one⟩
      simp only [execOp]
      go_simp
      all_goals (simp [hrun, Result.andThen])
    · refine wp_value (v := rv (u1, u2)) ?_ ⟨_, put_in (d := 8) rfl rfl uu _, hI.value (by omega) (by decide) (by decide) (by decide) (by decide) rfl⟩
      simp only [execOp]
      go_simp
    · refine wp_value (v := rv (e1, e2)) ?_ ⟨_, put_in (d := 9) rfl rfl uu _, hI.value (by omega) (by decide) (by decide) (by decide) (by decide) rfl⟩
      simp only [execOp]
      go_simp
    · have h0 := hd ⟨0, .data⟩ (by simp) (by simp [Region.binds])
      have x0 := (ev 5 rfl (by decide)).trans (hI.facts 0 (by decide) h0)
      have x1 := (ev 8 rfl (by decide)).trans (hI.facts 4 (by decide) (hd ⟨4, .data⟩ (by simp) (by simp [Region.binds])))
      have x2 := (ev 9 rfl (by decide)).trans (hI.facts 5 (by decide) (hd ⟨5, .data⟩ (by simp) (by simp [Region.binds])))
      obtain ⟨n, D, hown, hds⟩ := hI.map h0
      obtain ⟨W2, hrun, r1, r2⟩ := World.ownsMap.update hown rfLaw Try.underlying48 (by have := hds.le; unfold maxLen; omega) HK2.out (show heldR (rv (e1, e2)) = some (.held (rv (e1, e2)), []) from rfl)
      rw [hlk] at hds
      refine wp_skipped (w' := W2) ?_ ⟨uu, put_no rfl uu undef, hI.ins (k := 6) (.inr rfl) (by omega) h0 r2 r1 hds.two⟩
      simp only [execOp]
      go_simp
      all_goals (simp [hrun, Result.andThen])
    · have x0 := (ev 5 rfl (by decide)).trans (hI.facts 0 (by decide) (hd ⟨0, .data⟩ (by simp) (by simp [Region.binds])))
      refine wp_value (v := .map (some V.heap.size)) ?_ ⟨_, put_in (d := 10) rfl rfl uu _, hI.value (by omega) (by decide) (by decide) (by decide) (by decide) rfl⟩
      simp only [execOp]
      go_simp
    · have x7 := (ev 10 rfl (by decide)).trans (hI.facts 7 (by decide) (hd ⟨7, .data⟩ (by simp) (by simp [Region.binds])))
      refine wp_value (v := .map (some V.heap.size)) ?_ ⟨_, put_in (d := 4) rfl rfl uu _, hI.value (by omega) (by decide) (by decide) (by decide) (by decide) rfl⟩
      simp only [execOp]
      go_simp
end Go.Proofs.Ythldaifnlnbpgaa.gr
