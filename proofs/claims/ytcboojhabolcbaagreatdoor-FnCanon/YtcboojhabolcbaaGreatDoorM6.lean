/-
  Chapter 6 as lists: which graphs are right. Chapter 6 as the specification has it: a right root, a right new object. What the program asks of an object's head. Chapter 6 as the program has it: what a ref says, and where an Id stands.
-/
import Derived.Test.YtcboojhabolcbaaGreatDoorM5
import Derived.Test.YtcboojhabolcbaaGreatDoorHeadOk
import Derived.Below
import Derived.Test.YtcboojhabolcbaaGreatDoorM1
namespace Go.Proofs.YtcboojhabolcbaaGreatDoor.gr
open Go.RowKit rows heads
set_option maxRecDepth 100000

/-- The place of the object with this Id; -1: none. -/
def atI (os : List Ob) (id : Int) : Int := match os.findIdx? (fun o => o.id == id) with | some i => (i : Int) | none => -1
theorem atI_at {os : List Ob} {id : Int} {k : Nat} (hk : k < os.length) (h : (os.getD k obD).id = id) (hn : ∀ m, m < k → ¬ (os.getD m obD).id = id) : atI os id = k := by
  unfold atI
  have g : ∀ j, (hj : j < os.length) → os.getD j obD = os[j] := fun j hj => by rw [List.getD_eq_getElem?_getD, List.getElem?_eq_getElem hj]; rfl
  have e : os.findIdx? (fun o => o.id == id) = some k := by
    rw [List.findIdx?_eq_some_iff_getElem]
    refine ⟨hk, ?_, fun j hj => ?_⟩
    · rw [g k hk] at h; simpa using h
    · have := hn j hj
      rw [g j (by omega)] at this
      simpa using this
  rw [e]
theorem atI_no {os : List Ob} {id : Int} (hn : ∀ m, m < os.length → ¬ (os.getD m obD).id = id) : atI os id = -1 := by
  unfold atI
  have e : os.findIdx? (fun o => o.id == id) = none := by
    rw [List.findIdx?_eq_none_iff]
    intro o ho
    obtain ⟨i, hi, rfl⟩ := List.getElem_of_mem ho
    have := hn i hi
    rw [List.getD_eq_getElem?_getD, List.getElem?_eq_getElem hi] at this
    simpa using this
  rw [e]
theorem atI_le (os : List Ob) (id : Int) : -1 ≤ atI os id ∧ atI os id < os.length ∨ atI os id = -1 := by
  unfold atI
  cases h : os.findIdx? (fun o => o.id == id) with
  | none => exact .inr rfl
  | some i =>
    have := (List.findIdx?_eq_some_iff_getElem.1 h).1
    refine .inl ⟨?_, ?_⟩
    · simp
    · simpa using this
/-- Is a ref right? -/
def refOk (os : List Ob) (r : Rf) : Bool := if r.1 = 0 then r.2 == 0 else if r.1 = 1 then inR (-100000) 100000 r.2 else r.1 == 2 && decide (0 ≤ atI os r.2)
def lastOf (os : List Ob) : Nat → Int
  | 0 => 0
  | i + 1 => (os.getD i obD).id
/-- Is the object at i right, its refs aside? -/
def obOk (os : List Ob) (next : Int) (i : Nat) : Bool := decide (lastOf os i < (os.getD i obD).id) && decide ((os.getD i obD).id < next) && decide ((os.getD i obD).fmt ≤ 2) && hok ((os.getD i obD).slots.length : Int) (os.getD i obD).fmt (os.getD i obD).cls (os.getD i obD).hash false false
def slOk (os : List Ob) (i : Nat) : Bool := (List.range (os.getD i obD).slots.length).all fun k => refOk os ((os.getD i obD).slots.getD k refD)
def gHead (G : Gr) : Bool := decide (G.objs.length ≤ 200) && decide (G.roots.length = 6) && decide (G.mourned.length ≤ 40) && inR 1 100000 G.next && inR 0 65535 G.seed
def gOk (G : Gr) : Bool := gHead G && (List.range G.objs.length).all (fun i => obOk G.objs G.next i && slOk G.objs i) && (List.range 6).all (fun i => refOk G.objs (G.roots.getD i refD)) && (List.range G.mourned.length).all (fun i => (G.mourned.getD i refD).1 == 2 && refOk G.objs (G.mourned.getD i refD))

theorem graphAt_len {w : World} {o r m : Value} {ms : List MO} {G : Gr} (h : GraphAt w o r m ms G) : ms.length = G.objs.length := by rw [← h.1]; simp
theorem graphAt_get {w : World} {o r m : Value} {ms : List MO} {G : Gr} (h : GraphAt w o r m ms G) (i : Nat) : (ms.getD i moD).abs = G.objs.getD i obD := by rw [← h.1, abs_getD]

set_option maxHeartbeats 2000000 in
theorem l6At_any {w : World} {o r m : Value} {ms : List MO} {G : Gr} (h : GraphAt w o r m ms G) (hl : ms.length ≤ 1048576) (id : Int) :
    Calls Tryz.prog 68 #[gv o r m G.next G.seed, .int .i64 id] w fun e w' => e = .returned (.int .i64 (atI G.objs id)) ∧ w' = w.alloc (gb o r m G.next G.seed) := by
  have hlen := graphAt_len h
  have hget := graphAt_get h
  obtain ⟨_, ⟨⟨a, cap, rfl, hlc, hcm, _, hc⟩, _⟩, hR, hM⟩ := h
  obtain ⟨a2, n2, c2, e2⟩ := refs_slice hR
  obtain ⟨a3, n3, c3, e3⟩ := refs_slice hM
  subst e2 e3
  have hcb : cap ≤ 9223372036854775807 := hcm
  have B : Below w.heap.size w (w.alloc (gb (.slice a ms.length cap) (.slice a2 n2 c2) (.slice a3 n3 c3) G.next G.seed)) := (Below.refl _ w).alloc (Nat.le_refl _) _
  have T := five_new w 27 (.slice a ms.length cap) (.slice a2 n2 c2) (.slice a3 n3 c3) (.int .i64 G.next) (.int .i64 G.seed)
  obtain ⟨z0, _, _, _, _, _⟩ := five_cells T
  obtain ⟨RV, hRV⟩ : ∃ RV, atI G.objs id = RV := ⟨_, rfl⟩
  rw [hRV]
  have HRV : Hid _ := hRV
  have HC : Hid _ := hc
  have HB : Hid _ := B
  have HLEN : Hid _ := hlen
  have HGET : Hid _ := hget
  clear hc B T hR hM hRV hlen hget
  go_enter Tryz.func68, Tryz.ntmps68
  go_wp2_with fail
  generalize hX : (w.alloc (gb (.slice a ms.length cap) (.slice a2 n2 c2) (.slice a3 n3 c3) G.next G.seed)) = X at *
  generalize hq : w.heap.size = q at *
  have HX : Hid _ := hX
  clear hX
  go_loopw [5] (fun i wr => ∃ k : Nat, k ≤ ms.length ∧ i = .int .i64 k ∧ (∀ m, m < k → ¬ (G.objs.getD m obD).id = id) ∧ wr = X) (fun i _ => ms.length - (intOf i).toNat)
  case atStart => exact ⟨0, Nat.zero_le _, rfl, fun m hm => by omega, rfl⟩
  case round =>
    obtain ⟨k, hk, rfl, hne, hw⟩ := hrel
    subst hw
    have HNE : Hid _ := hne
    clear hne
    by_cases hlt : k < ms.length
    · obtain ⟨b, off, rfl, hb, hcc⟩ := HC.out (by omega)
      have c0 := (HB.out.cell (p := ⟨b, off + k * 5, none⟩) hb).trans (hcc k hlt).1
      have eid : (ms.getD k moD).id = (G.objs.getD k obD).id := congrArg Ob.id (HGET.out k)
      have HN2 : Hid (¬ (ms.getD k moD).id = id → ∀ m, m < k + 1 → ¬ (G.objs.getD m obD).id = id) := fun e m hm => by
        by_cases e' : m = k
        · rw [e', ← eid]; exact e
        · exact HNE.out m (by omega)
      have HYES : Hid ((ms.getD k moD).id = id → RV = k) := fun e => HRV.out.symm.trans (atI_at (by rw [← HLEN.out]; exact hlt) (eid.symm.trans e) HNE.out)
      clear hcc HC HNE eid HGET HLEN HRV
      generalize (ms.getD k moD).id = y at *
      by_cases hy : y = id
      · have HV : Hid _ := HYES.out hy
        have hy' : (y == id) = true := by simpa using hy
        clear HYES HN2 hy
        go_wp2
        go_ret
        exact ⟨by rw [HV.out]; rfl, HX.out.symm⟩
      · have HV : Hid _ := HN2.out hy
        have hy' : (y == id) = false := by simpa using hy
        clear HYES HN2
        go_wp2
        exact ⟨⟨k + 1, by omega, by go_num, HV, by trivial⟩, by simp [intOf]; omega⟩
    · have HV : Hid (RV = -1) := HRV.out.symm.trans (atI_no (fun m hm => HNE.out m (by rw [← HLEN.out] at hm; omega)))
      clear HC HNE HRV HGET HLEN
      go_wp2
      go_ret
      exact ⟨by rw [HV.out]; rfl, HX.out.symm⟩
end Go.Proofs.YtcboojhabolcbaaGreatDoor.gr
namespace Go.Proofs.YtcboojhabolcbaaGreatDoor.gr
open Go.RowKit rows heads
set_option maxRecDepth 100000

theorem l6Root_any (x : Int) (w : World) :
    Calls Tryz.prog 64 #[.int .i64 x] w fun e w' => e = .returned (.bool (inR 0 5 x)) ∧ w' = w := by
  go_enter Tryz.func64, Tryz.ntmps64
  go_wp2_with (go_at_call 47; refine (l1In_any _ _ _ _).mono ?_; rintro e w3 ⟨rfl, hw3⟩; rw [hw3]; clear hw3 w3)
  go_ret
  exact ⟨rfl, rfl⟩

/-- Is a new object of this kind right? -/
def newOk (cls fmt slots : Int) : Bool := inR 0 2 fmt && hok slots fmt cls 0 false false
theorem l6New_any (cls fmt slots : Int) (w : World) :
    Calls Tryz.prog 97 #[.int .i64 cls, .int .i64 fmt, .int .i64 slots] w fun e w' => e = .returned (.bool (newOk cls fmt slots)) ∧ Below w.heap.size w w' := by
  have H := sHeadOk_any slots fmt cls 0 false false w
  have B : Below w.heap.size w (w.alloc (heads.hb slots fmt cls 0 false false)) := (Below.refl _ w).alloc (Nat.le_refl _) _
  have HB : Hid _ := B
  clear B
  cases d : inR 0 2 fmt
  · have e : newOk cls fmt slots = false := by unfold newOk; rw [d]; rfl
    rw [e]
    clear H
    go_enter Tryz.func97, Tryz.ntmps97
    go_wp2_with (go_at_call 47; refine (l1In_any _ _ _ _).mono ?_; rintro e w3 ⟨rfl, hw3⟩; rw [hw3]; clear hw3 w3)
    go_ret
    exact ⟨rfl, Below.refl _ _⟩
  · have e : newOk cls fmt slots = hok slots fmt cls 0 false false := by unfold newOk; rw [d]; rfl
    rw [e]
    generalize hok slots fmt cls 0 false false = y at *
    clear e
    go_enter Tryz.func97, Tryz.ntmps97
    go_wp2_with (first
      | (go_at_call 47; refine (l1In_any _ _ _ _).mono ?_; rintro e w3 ⟨rfl, hw3⟩; rw [hw3]; clear hw3 w3)
      | (go_at_call 48; refine H.mono ?_; clear H; rintro e w3 ⟨rfl, hw3⟩; rw [hw3]; clear hw3 w3))
    go_ret
    exact ⟨rfl, HB⟩
end Go.Proofs.YtcboojhabolcbaaGreatDoor.gr
namespace Go.Proofs.YtcboojhabolcbaaGreatDoor.heads
open Go.RowKit
set_option maxRecDepth 100000

/-- Is this the head of an object with slots of its own? -/
def fok (s f c g : Int) (p m : Bool) : Bool := decide (f ≤ 2) && hok s f c g p m

set_option maxHeartbeats 1000000 in
theorem objectHeadOk_any (s f c g : Int) (p m : Bool) (w : World) :
    Calls Tryz.prog 71 #[hv s f c g p m] w fun e w' => e = .returned (.bool (fok s f c g p m)) ∧ Below w.heap.size w w' := by
  have B0 : Below w.heap.size w (w.alloc (hb s f c g p m)) := (Below.refl _ w).alloc (Nat.le_refl _) _
  have B1 : Below w.heap.size w ((w.alloc (hb s f c g p m)).alloc (hb s f c g p m)) := ((Below.refl _ w).alloc (Nat.le_refl _) _).alloc (by simp) _
  have HO := headOk_any s f c g p m
  have HB0 : Hid _ := B0
  have HB1 : Hid _ := B1
  clear B0 B1
  unfold fok
  generalize hok s f c g p m = o at *
  go_enter Tryz.func71, Tryz.ntmps71
  by_cases hf : f ≤ 2
  · go_wp2_with (go_at_call 87; refine (HO _).mono ?_; rintro e w1 ⟨rfl, rfl⟩)
    go_ret
    exact ⟨by simp [hf], HB1⟩
  · clear HO
    go_wp2
    go_ret
    exact ⟨by simp; intro h; omega, HB0⟩
end Go.Proofs.YtcboojhabolcbaaGreatDoor.heads
namespace Go.Proofs.YtcboojhabolcbaaGreatDoor.gr
open Go.RowKit rows heads
set_option maxRecDepth 100000

theorem intInRange_any (n : Int) (w : World) :
    Calls Tryz.prog 85 #[.int .i64 n] w fun e w' => e = .returned (.bool (inR (-100000) 100000 n)) ∧ w' = w := by
  unfold inR
  by_cases h1 : (-100000 : Int) ≤ n
  · by_cases h2 : n ≤ 100000
    · go_enter Tryz.func85, Tryz.ntmps85
      go_wp2
      go_ret
      exact ⟨by simp; omega, rfl⟩
    · go_enter Tryz.func85, Tryz.ntmps85
      go_wp2
      go_ret
      exact ⟨by simp; omega, rfl⟩
  · go_enter Tryz.func85, Tryz.ntmps85
    go_wp2
    go_ret
    exact ⟨by simp; omega, rfl⟩

/-- What a ref says, as a value. -/
def shv (r : Rf) : Value := if r.1 = 0 ∧ r.2 = 0 then .iface 104 (.agg #[]) else if (r.1 == 1 && inR (-100000) 100000 r.2) = true then .iface 106 (.agg #[.int .i64 r.2]) else if r.1 = 2 then .iface 122 (.agg #[.int .i64 r.2]) else .nilIface
set_option maxHeartbeats 1000000 in
theorem shapeOf_any (r : Rf) (w : World) :
    Calls Tryz.prog 63 #[rv r] w fun e w' => e = .returned (shv r) ∧ Below w.heap.size w w' := by
  obtain ⟨k, n⟩ := r
  have B : Below w.heap.size w (w.alloc (rb (k, n))) := (Below.refl _ w).alloc (Nat.le_refl _) _
  have HB : Hid _ := B
  clear B
  have I := intInRange_any n
  by_cases k0 : k = 0
  · subst k0
    by_cases n0 : n = 0
    · subst n0
      clear I
      go_enter Tryz.func63, Tryz.ntmps63
      go_wp2
      go_ret
      exact ⟨by simp [shv], HB⟩
    · have n0' : (n == 0) = false := by simpa using n0
      clear I
      go_enter Tryz.func63, Tryz.ntmps63
      go_wp2
      go_ret
      exact ⟨by simp [shv, n0], HB⟩
  · have k0' : (k == 0) = false := by simpa using k0
    by_cases k1 : k = 1
    · subst k1
      have es : shv (1, n) = if inR (-100000) 100000 n = true then .iface 106 (.agg #[.int .i64 n]) else .nilIface := by simp [shv]
      rw [es]
      cases d : inR (-100000) 100000 n
      · rw [d] at I
        go_enter Tryz.func63, Tryz.ntmps63
        go_wp2_with (go_at_call 85; refine (I _).mono ?_; rintro e w1 ⟨rfl, rfl⟩)
        go_ret
        exact ⟨by simp, HB⟩
      · rw [d] at I
        go_enter Tryz.func63, Tryz.ntmps63
        go_wp2_with (go_at_call 85; refine (I _).mono ?_; rintro e w1 ⟨rfl, rfl⟩)
        go_ret
        exact ⟨by simp, HB⟩
    · have k1' : (k == 1) = false := by simpa using k1
      clear I
      by_cases k2 : k = 2
      · subst k2
        go_enter Tryz.func63, Tryz.ntmps63
        go_wp2
        go_ret
        exact ⟨by simp [shv], HB⟩
      · have k2' : (k == 2) = false := by simpa using k2
        go_enter Tryz.func63, Tryz.ntmps63
        go_wp2
        go_ret
        exact ⟨by simp [shv, k0, k1, k2], HB⟩

/-- The four shapes. -/
theorem shv_cases (r : Rf) : (r = (0, 0) ∧ shv r = .iface 104 (.agg #[])) ∨ (r.1 = 1 ∧ inR (-100000) 100000 r.2 = true ∧ shv r = .iface 106 (.agg #[.int .i64 r.2])) ∨ (r.1 = 2 ∧ shv r = .iface 122 (.agg #[.int .i64 r.2])) ∨ (¬ r.1 = 2 ∧ ¬ (r.1 = 0 ∧ r.2 = 0) ∧ ¬ (r.1 = 1 ∧ inR (-100000) 100000 r.2 = true) ∧ shv r = .nilIface) := by
  obtain ⟨k, n⟩ := r
  unfold shv
  by_cases h0 : k = 0 ∧ n = 0
  · exact .inl ⟨by rw [h0.1, h0.2], by simp [h0]⟩
  · by_cases h1 : k = 1 ∧ inR (-100000) 100000 n = true
    · exact .inr (.inl ⟨h1.1, h1.2, by simp [h1.1, h1.2]⟩)
    · by_cases h2 : k = 2
      · exact .inr (.inr (.inl ⟨h2, by simp [h2]⟩))
      · refine .inr (.inr (.inr ⟨h2, h0, h1, ?_⟩))
        have h1' : (k == 1 && inR (-100000) 100000 n) = false := by
          cases e : (k == 1 && inR (-100000) 100000 n)
          · rfl
          · simp only [Bool.and_eq_true, beq_iff_eq] at e; exact absurd e h1
        simp only [h0, h1', h2, if_false]
        simp

theorem as_nothing_nothing (v : Value) (w : World) : (Instr.typeAssert (.iface 104 v) 101 104 true).run Tryz.prog w = .ok (.tuple #[v, .bool true]) w := by kernel_rfl
theorem as_number_nothing (v : Value) (w : World) : (Instr.typeAssert (.iface 106 v) 101 104 true).run Tryz.prog w = .ok (.tuple #[.agg #[], .bool false]) w := by kernel_rfl
theorem as_leading_nothing (v : Value) (w : World) : (Instr.typeAssert (.iface 122 v) 101 104 true).run Tryz.prog w = .ok (.tuple #[.agg #[], .bool false]) w := by kernel_rfl
theorem as_nil_nothing (w : World) : (Instr.typeAssert .nilIface 101 104 true).run Tryz.prog w = .ok (.tuple #[.agg #[], .bool false]) w := by kernel_rfl
theorem as_nothing_number (v : Value) (w : World) : (Instr.typeAssert (.iface 104 v) 101 106 true).run Tryz.prog w = .ok (.tuple #[.agg #[.int .i64 0], .bool false]) w := by kernel_rfl
theorem as_number_number (v : Value) (w : World) : (Instr.typeAssert (.iface 106 v) 101 106 true).run Tryz.prog w = .ok (.tuple #[v, .bool true]) w := by kernel_rfl
theorem as_leading_number (v : Value) (w : World) : (Instr.typeAssert (.iface 122 v) 101 106 true).run Tryz.prog w = .ok (.tuple #[.agg #[.int .i64 0], .bool false]) w := by kernel_rfl
theorem as_nil_number (w : World) : (Instr.typeAssert .nilIface 101 106 true).run Tryz.prog w = .ok (.tuple #[.agg #[.int .i64 0], .bool false]) w := by kernel_rfl
theorem as_nothing_leading (v : Value) (w : World) : (Instr.typeAssert (.iface 104 v) 101 122 true).run Tryz.prog w = .ok (.tuple #[.agg #[.int .i64 0], .bool false]) w := by kernel_rfl
theorem as_number_leading (v : Value) (w : World) : (Instr.typeAssert (.iface 106 v) 101 122 true).run Tryz.prog w = .ok (.tuple #[.agg #[.int .i64 0], .bool false]) w := by kernel_rfl
theorem as_leading_leading (v : Value) (w : World) : (Instr.typeAssert (.iface 122 v) 101 122 true).run Tryz.prog w = .ok (.tuple #[v, .bool true]) w := by kernel_rfl
theorem as_nil_leading (w : World) : (Instr.typeAssert .nilIface 101 122 true).run Tryz.prog w = .ok (.tuple #[.agg #[.int .i64 0], .bool false]) w := by kernel_rfl
set_option maxHeartbeats 1000000 in
theorem leadsTo_any (r : Rf) (w : World) :
    Calls Tryz.prog 75 #[rv r] w fun e w' => e = .returned (.tuple #[.int .i64 (if r.1 = 2 then r.2 else 0), .bool (r.1 == 2)]) ∧ Below w.heap.size w w' := by
  have S := shapeOf_any r (w.alloc (rb r))
  have C := shv_cases r
  obtain ⟨k, n⟩ := r
  have B : Below w.heap.size w (w.alloc (rb (k, n))) := (Below.refl _ w).alloc (Nat.le_refl _) _
  have hsz : w.heap.size ≤ (w.alloc (rb (k, n))).heap.size := B.size
  have HB : Hid _ := B
  clear B
  generalize hs : shv (k, n) = sv at *
  clear hs
  go_enter Tryz.func75, Tryz.ntmps75
  go_wp2_with fail
  refine S.mono ?_
  rintro e w1 ⟨rfl, b1⟩
  have B1 := HB.out.trans (b1.mono hsz)
  have sz1 := B1.size
  have HB1 : Hid _ := B1
  clear S HB b1 B1
  rcases C with ⟨c, rfl⟩ | ⟨c, _, rfl⟩ | ⟨c, rfl⟩ | ⟨c, _, _, rfl⟩
  · injection c with c1 c2
    subst c1 c2
    have a1 := as_nothing_leading
    go_wp2
    refine bodyPost_ret (v := .tuple #[.int .i64 0, .bool false]) (by simp [results, Tryz.results75, go_sem]) rfl ⟨rfl, ?_⟩
    exact HB1.out.alloc sz1 _
  · subst c
    have a1 := as_number_leading
    go_wp2
    refine bodyPost_ret (v := .tuple #[.int .i64 0, .bool false]) (by simp [results, Tryz.results75, go_sem]) rfl ⟨rfl, ?_⟩
    exact HB1.out.alloc sz1 _
  · subst c
    have a1 := as_leading_leading
    go_wp2
    refine bodyPost_ret (v := .tuple #[.int .i64 n, .bool true]) (by simp [results, Tryz.results75, go_sem]) rfl ⟨rfl, ?_⟩
    exact HB1.out.alloc sz1 _
  · have c' : (k == 2) = false := by simpa using c
    have a1 := as_nil_leading
    go_wp2
    refine bodyPost_ret (v := .tuple #[.int .i64 0, .bool false]) (by simp [results, Tryz.results75, go_sem]) rfl ⟨by simp, ?_⟩
    exact HB1.out.alloc sz1 _
end Go.Proofs.YtcboojhabolcbaaGreatDoor.gr
