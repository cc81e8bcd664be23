/-
  Chapter 6 as lists: which graphs are right.
  Made from the template GraphD.
-/
import Derived.Test.YthldaifnlnbpgaaGraphsL
import Derived.Test.YthldaifnlnbpgaaHeadOk
namespace Go.Proofs.Ythldaifnlnbpgaa.gr
open Go.RowKit rows heads
set_option maxRecDepth 100000

/-- The place of the object with this Id; -1: none. -/
def atI (os : List Ob) (id : Int) : Int := match os.findIdx? (fun o => o.id == id) with | some i => (i : Int) | none => -1
theorem atI_at {os : List Ob} {id : Int} {k : Nat} (hk : k < os.length) (h : (os.getD k obD).id = id) (hn : ∀ m, m < k → ¬ (os.getD m obD).id = id) : atI os id = k := by
  unfold atI
  have g : ∀ j, (hj : j < os.length) → os.getD j obD = os[j] := fun j hj => by rw [List.getD_eq_getElem?_getD, List.getElem?_eq_getElem hj]; rfl
  have e : os.findIdx? (fun o => o.id == id) = some k := by
    rw [List.findIdx?_eq_some_iff_getElem]
    refine ⟨hk, ?_, fun j hj => ?_⟩
    · rw [g k hk] at h; simpa using h
    · have := hn j hj
      rw [g j (by omega)] at this
      simpa using this
  rw [e]
theorem atI_no {os : List Ob} {id : Int} (hn : ∀ m, m < os.length → ¬ (os.getD m obD).id = id) : atI os id = -1 := by
  unfold atI
  have e : os.findIdx? (fun o => o.id == id) = none := by
    rw [List.findIdx?_eq_none_iff]
    intro o ho
    obtain ⟨i, hi, rfl⟩ := List.getElem_of_mem ho
    have := hn i hi
    rw [List.getD_eq_getElem?_getD, List.getElem?_eq_getElem hi] at this
    simpa using this
  rw [e]
theorem atI_le (os : List Ob) (id : Int) : -1 ≤ atI os id ∧ atI os id < os.length ∨ atI os id = -1 := by
  unfold atI
  cases h : os.findIdx? (fun o => o.id == id) with
  | none => exact .inr rfl
  | some i =>
    have := (List.findIdx?_eq_some_iff_getElem.1 h).1
    refine .inl ⟨?_, ?_⟩
    · simp
    · simpa using this
/-- Is a ref right? -/
def refOk (os : List Ob) (r : Rf) : Bool := if r.1 = 0 then r.2 == 0 else if r.1 = 1 then inR (-100000) 100000 r.2 else r.1 == 2 && decide (0 ≤ atI os r.2)
def lastOf (os : List Ob) : Nat → Int
  | 0 => 0
  | i + 1 => (os.getD i obD).id
/-- Is the object at i right, its refs aside? -/
def obOk (os : List Ob) (next : Int) (i : Nat) : Bool := decide (lastOf os i < (os.getD i obD).id) && decide ((os.getD i obD).id < next) && decide ((os.getD i obD).fmt ≤ 2) && hok ((os.getD i obD).slots.length : Int) (os.getD i obD).fmt (os.getD i obD).cls (os.getD i obD).hash false false
def slOk (os : List Ob) (i : Nat) : Bool := (List.range (os.getD i obD).slots.length).all fun k => refOk os ((os.getD i obD).slots.getD k refD)
def gHead (G : Gr) : Bool := decide (G.objs.length ≤ 200) && decide (G.roots.length = 6) && decide (G.mourned.length ≤ 40) && inR 1 100000 G.next && inR 0 65535 G.seed
def gOk (G : Gr) : Bool := gHead G && (List.range G.objs.length).all (fun i => obOk G.objs G.next i && slOk G.objs i) && (List.range 6).all (fun i => refOk G.objs (G.roots.getD i refD)) && (List.range G.mourned.length).all (fun i => (G.mourned.getD i refD).1 == 2 && refOk G.objs (G.mourned.getD i refD))

theorem graphAt_len {w : World} {o r m : Value} {ms : List MO} {G : Gr} (h : GraphAt w o r m ms G) : ms.length = G.objs.length := by rw [← h.1]; simp
theorem graphAt_get {w : World} {o r m : Value} {ms : List MO} {G : Gr} (h : GraphAt w o r m ms G) (i : Nat) : (ms.getD i moD).abs = G.objs.getD i obD := by rw [← h.1, abs_getD]

set_option maxHeartbeats 2000000 in
theorem l6At_any {w : World} {o r m : Value} {ms : List MO} {G : Gr} (h : GraphAt w o r m ms G) (hl : ms.length ≤ 1048576) (id : Int) :
    Calls Try.prog 44 #[gv o r m G.next G.seed, .int .i64 id] w fun e w' => e = .returned (.int .i64 (atI G.objs id)) ∧ w' = w.alloc (gb o r m G.next G.seed) := by
  have hlen := graphAt_len h
  have hget := graphAt_get h
  obtain ⟨_, ⟨⟨a, cap, rfl, hlc, hcm, _, hc⟩, _⟩, hR, hM⟩ := h
  obtain ⟨a2, n2, c2, e2⟩ := refs_slice hR
  obtain ⟨a3, n3, c3, e3⟩ := refs_slice hM
  subst e2 e3
  have hcb : cap ≤ 9223372036854775807 := hcm
  have B : Below w.heap.size w (w.alloc (gb (.slice a ms.length cap) (.slice a2 n2 c2) (.slice a3 n3 c3) G.next G.seed)) := (Below.refl _ w).alloc (Nat.le_refl _) _
  have T := five_new w 30 (.slice a ms.length cap) (.slice a2 n2 c2) (.slice a3 n3 c3) (.int .i64 G.next) (.int .i64 G.seed)
  obtain ⟨z0, _, _, _, _, _⟩ := five_cells T
  obtain ⟨RV, hRV⟩ : ∃ RV, atI G.objs id = RV := ⟨_, rfl⟩
  rw [hRV]
  have HRV : Hid _ := hRV
  have HC : Hid _ := hc
  have HB : Hid _ := B
  have HLEN : Hid _ := hlen
  have HGET : Hid _ := hget
  clear hc B T hR hM hRV hlen hget
  go_enter Try.func44, Try.ntmps44
  go_wp2_with fail
  generalize hX : (w.alloc (gb (.slice a ms.length cap) (.slice a2 n2 c2) (.slice a3 n3 c3) G.next G.seed)) = X at *
  generalize hq : w.heap.size = q at *
  have HX : Hid _ := hX
  clear hX
  go_loopw [5] (fun i wr => ∃ k : Nat, k ≤ ms.length ∧ i = .int .i64 k ∧ (∀ m, m < k → ¬ (G.objs.getD m obD).id = id) ∧ wr = X) (fun i _ => ms.length - (intOf i).toNat)
  case atStart => exact ⟨0, Nat.zero_le _, rfl, fun m hm => by omega, rfl⟩
  case round =>
    obtain ⟨k, hk, rfl, hne, hw⟩ := hrel
    subst hw
    have HNE : Hid _ := hne
    clear hne
    by_cases hlt : k < ms.length
    · obtain ⟨b, off, rfl, hb, hcc⟩ := HC.out (by omega)
      have c0 := (HB.out.cell (p := ⟨b, off + k * 5, none⟩) hb).trans (hcc k hlt).1
      have eid : (ms.getD k moD).id = (G.objs.getD k obD).id := congrArg Ob.id (HGET.out k)
      have HN2 : Hid (¬ (ms.getD k moD).id = id → ∀ m, m < k + 1 → ¬ (G.objs.getD m obD).id = id) := fun e m hm => by
        by_cases e' : m = k
        · rw [e', ← eid]; exact e
        · exact HNE.out m (by omega)
      have HYES : Hid ((ms.getD k moD).id = id → RV = k) := fun e => HRV.out.symm.trans (atI_at (by rw [← HLEN.out]; exact hlt) (eid.symm.trans e) HNE.out)
      clear hcc HC HNE eid HGET HLEN HRV
      generalize (ms.getD k moD).id = y at *
      by_cases hy : y = id
      · have HV : Hid _ := HYES.out hy
        have hy' : (y == id) = true := by simpa using hy
        clear HYES HN2 hy
        go_wp2
        go_ret
        exact ⟨by rw [HV.out]; rfl, HX.out.symm⟩
      · have HV : Hid _ := HN2.out hy
        have hy' : (y == id) = false := by simpa using hy
        clear HYES HN2
        go_wp2
        exact ⟨⟨k + 1, by omega, by go_num, HV, by trivial⟩, by simp [intOf]; omega⟩
    · have HV : Hid (RV = -1) := HRV.out.symm.trans (atI_no (fun m hm => HNE.out m (by rw [← HLEN.out] at hm; omega)))
      clear HC HNE HRV HGET HLEN
      go_wp2
      go_ret
      exact ⟨by rw [HV.out]; rfl, HX.out.symm⟩
end Go.Proofs.Ythldaifnlnbpgaa.gr
