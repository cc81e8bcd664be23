/-
  Lists of objects in memory: four numbers and a list of refs each. HeadOk, of the program and of the specification: one contract each: what the call returns, and the one block that it makes. Heads in memory: a block that holds one; what is read and stored of it. What the laws do with objects and lists of them: made anew, held against one another.
-/
import Derived.Test.YtnahclkhaghpdalM1
import Derived.Test.YtnahclkhaghpdalRows
import Derived.WalkKit
import Derived.WalkSpells
import Derived.WalkLawsBesides
import Derived.Below
namespace Go.Proofs.Ytnahclkhaghpdal.gr
open Go.RowKit rows
set_option maxRecDepth 100000

/-- An object. -/
structure Ob where
  id : Int
  cls : Int
  fmt : Int
  hash : Int
  slots : List Rf
/-- An object as it lies: with the value of its list of refs. -/
structure MO where
  id : Int
  cls : Int
  fmt : Int
  hash : Int
  sv : Value
  slots : List Rf
def MO.abs (m : MO) : Ob := ⟨m.id, m.cls, m.fmt, m.hash, m.slots⟩
abbrev moD : MO := ⟨0, 0, 0, 0, .slice none 0 0, []⟩
abbrev obD : Ob := ⟨0, 0, 0, 0, []⟩
theorem abs_getD (ms : List MO) (i : Nat) : (ms.map MO.abs).getD i obD = (ms.getD i moD).abs := by
  rw [List.getD_eq_getElem?_getD, List.getD_eq_getElem?_getD, List.getElem?_map]
  cases ms[i]? <;> rfl

def cellsO : List MO → List Value
  | [] => []
  | m :: ms => .int .i64 m.id :: .int .i64 m.cls :: .int .i64 m.fmt :: .int .i64 m.hash :: m.sv :: cellsO ms
theorem cellsO_length : ∀ ms : List MO, (cellsO ms).length = ms.length * 5
  | [] => rfl
  | _ :: ms => by simp [cellsO, cellsO_length ms]; omega
theorem cellsO_append : ∀ ms ns : List MO, cellsO (ms ++ ns) = cellsO ms ++ cellsO ns
  | [], _ => rfl
  | _ :: ms, ns => by simp [cellsO, cellsO_append ms ns]
theorem cellsO_at : ∀ (ms : List MO) (i : Nat), i < ms.length → (cellsO ms)[i * 5]? = some (.int .i64 (ms.getD i moD).id) ∧ (cellsO ms)[i * 5 + 1]? = some (.int .i64 (ms.getD i moD).cls) ∧ (cellsO ms)[i * 5 + 2]? = some (.int .i64 (ms.getD i moD).fmt) ∧ (cellsO ms)[i * 5 + 3]? = some (.int .i64 (ms.getD i moD).hash) ∧ (cellsO ms)[i * 5 + 4]? = some (ms.getD i moD).sv
  | [], _, h => by simp at h
  | e :: ms, 0, _ => by simp [cellsO]
  | e :: ms, i + 1, h => by
    have := cellsO_at ms i (by simpa using h)
    rw [show (i + 1) * 5 = i * 5 + 1 + 1 + 1 + 1 + 1 by omega]
    simpa [cellsO] using this
/-- Each list of refs is a slice. -/
def Slices (ms : List MO) : Prop := ∀ m ∈ ms, ∃ a n c, m.sv = .slice a n c
theorem cellsO_one : ∀ {ms : List MO}, Slices ms → ∀ v ∈ cellsO ms, v.oneCell' = true
  | [], _, v, h => by simp [cellsO] at h
  | m :: ms, hs, v, h => by
    simp only [cellsO, List.mem_cons] at h
    rcases h with rfl | rfl | rfl | rfl | rfl | h
    · rfl
    · rfl
    · rfl
    · rfl
    · obtain ⟨a, n, c, e⟩ := hs m (List.mem_cons_self ..)
      rw [e]; rfl
    · exact cellsO_one (fun m' hm => hs m' (List.mem_cons_of_mem _ hm)) v h
theorem cellsO_set : ∀ (ms : List MO) (i : Nat) (m : MO), (((((cellsO ms).set (i * 5) (.int .i64 m.id)).set (i * 5 + 1) (.int .i64 m.cls)).set (i * 5 + 2) (.int .i64 m.fmt)).set (i * 5 + 3) (.int .i64 m.hash)).set (i * 5 + 4) m.sv = cellsO (ms.set i m)
  | [], i, m => by simp [cellsO]
  | d :: ms, 0, m => by simp [cellsO]
  | d :: ms, i + 1, m => by
    rw [show (i + 1) * 5 = i * 5 + 1 + 1 + 1 + 1 + 1 by omega]
    simp [cellsO, ← cellsO_set ms i m]

/-- The row of a list of objects. -/
def OrowAt (w : World) (v : Value) (ms : List MO) : Prop :=
  ∃ a cap, v = .slice a ms.length cap ∧ ms.length ≤ cap ∧ cap ≤ maxLen ∧ (a = none → cap = 0) ∧
    (0 < ms.length → ∃ b off, a = some ⟨b, off, none⟩ ∧ b < w.heap.size ∧ ∀ i, i < ms.length → w.cell? ⟨b, off + i * 5, none⟩ = some (.int .i64 (ms.getD i moD).id) ∧ w.cell? ⟨b, off + i * 5 + 1, none⟩ = some (.int .i64 (ms.getD i moD).cls) ∧ w.cell? ⟨b, off + i * 5 + 2, none⟩ = some (.int .i64 (ms.getD i moD).fmt) ∧ w.cell? ⟨b, off + i * 5 + 3, none⟩ = some (.int .i64 (ms.getD i moD).hash) ∧ w.cell? ⟨b, off + i * 5 + 4, none⟩ = some (ms.getD i moD).sv)
theorem orowAt_below {w w' : World} {v : Value} {ms : List MO} (h : OrowAt w v ms) (hb : Below w.heap.size w w') : OrowAt w' v ms := by
  obtain ⟨a, cap, rfl, h1, h2, h4, h3⟩ := h
  refine ⟨a, cap, rfl, h1, h2, h4, fun hp => ?_⟩
  obtain ⟨b, off, rfl, hlt, hc⟩ := h3 hp
  refine ⟨b, off, rfl, Nat.lt_of_lt_of_le hlt hb.size, fun i hi => ?_⟩
  obtain ⟨c0, c1, c2, c3, c4⟩ := hc i hi
  exact ⟨(hb.cell (p := ⟨b, off + i * 5, none⟩) hlt).trans c0, (hb.cell (p := ⟨b, off + i * 5 + 1, none⟩) hlt).trans c1, (hb.cell (p := ⟨b, off + i * 5 + 2, none⟩) hlt).trans c2, (hb.cell (p := ⟨b, off + i * 5 + 3, none⟩) hlt).trans c3, (hb.cell (p := ⟨b, off + i * 5 + 4, none⟩) hlt).trans c4⟩
/-- A list of objects that may be read. -/
def ObjsAt (w : World) (v : Value) (ms : List MO) : Prop := OrowAt w v ms ∧ ∀ m ∈ ms, RefsAt w m.sv m.slots
theorem objsAt_below {w w' : World} {v : Value} {ms : List MO} (h : ObjsAt w v ms) (hb : Below w.heap.size w w') : ObjsAt w' v ms := ⟨orowAt_below h.1 hb, fun m hm => refsAt_below (h.2 m hm) hb⟩
theorem refs_slice {w : World} {v : Value} {es : List Rf} (h : RefsAt w v es) : ∃ a n c, v = .slice a n c := by
  obtain ⟨a, cap, e, _⟩ := h
  exact ⟨a, _, cap, e⟩
theorem objs_slices {w : World} {v : Value} {ms : List MO} (h : ObjsAt w v ms) : Slices ms := fun m hm => refs_slice (h.2 m hm)
theorem mem_getD {ms : List MO} {i : Nat} (h : i < ms.length) : ms.getD i moD ∈ ms := by
  rw [List.getD_eq_getElem?_getD, List.getElem?_eq_getElem h]
  exact List.getElem_mem h

/-- A row of the call's own. -/
def OwnRow (w : World) (base : Nat) (v : Value) (ms : List MO) : Prop := w.ownsRow base 51 5 v ms.length (cellsO ms)
theorem ownRow_at {w : World} {base : Nat} {v : Value} {ms : List MO} (h : OwnRow w base v ms) : OrowAt w v ms := by
  have h' := h
  obtain ⟨_, ⟨rfl, hn⟩ | ⟨g, cap, cur, rfl, hg, hh, hle, hm, hs, ht⟩⟩ := h
  · have : ms = [] := by simpa using hn
    subst this
    exact ⟨none, 0, rfl, by simp, by decide, fun _ => rfl, fun hp => absurd hp (by simp)⟩
  · refine ⟨_, cap, rfl, hle, hm, fun h => (by cases h), fun hp => ⟨g, 0, rfl, lt_of_block hh, fun i hi => ?_⟩⟩
    obtain ⟨c0, c1, c2, c3, c4⟩ := cellsO_at ms i hi
    have a0 := World.ownsRow.cellAt h' (i * 5) (by omega)
    have a1 := World.ownsRow.cellAt h' (i * 5 + 1) (by omega)
    have a2 := World.ownsRow.cellAt h' (i * 5 + 2) (by omega)
    have a3 := World.ownsRow.cellAt h' (i * 5 + 3) (by omega)
    have a4 := World.ownsRow.cellAt h' (i * 5 + 4) (by omega)
    rw [Nat.zero_add, a0, a1, a2, a3, a4]
    exact ⟨c0, c1, c2, c3, c4⟩
/-- The blocks of rows. -/
def blk (v : Value) : List Nat := v.ownBlock.toList
def blks (ms : List MO) : List Nat := ms.flatMap (fun m => blk m.sv)
/-- A list of objects of the call's own, no two rows in one block. -/
def OwnO (w : World) (base : Nat) (v : Value) (ms : List MO) : Prop := OwnRow w base v ms ∧ (∀ m ∈ ms, OwnR w base m.sv m.slots) ∧ (blk v ++ blks ms).Nodup
theorem ownO_at {w : World} {base : Nat} {v : Value} {ms : List MO} (h : OwnO w base v ms) : ObjsAt w v ms := ⟨ownRow_at h.1, fun m hm => ownR_refs (h.2.1 m hm)⟩
theorem ownO_below {w w' : World} {base : Nat} {v : Value} {ms : List MO} (h : OwnO w base v ms) (hb : Below w.heap.size w w') : OwnO w' base v ms := ⟨row_below h.1 hb, fun m hm => ownR_below (h.2.1 m hm) hb, h.2.2⟩
theorem ownRow_base {w : World} {base base' : Nat} {v : Value} {ms : List MO} (h : OwnRow w base v ms) (hb : base' ≤ base) : OwnRow w base' v ms := by
  obtain ⟨h0, ⟨h1, h2⟩ | ⟨g, cap, cur, h1, hg, hh, hle, hm, hs, ht⟩⟩ := h
  · exact ⟨h0, .inl ⟨h1, h2⟩⟩
  · exact ⟨h0, .inr ⟨g, cap, cur, h1, Nat.le_trans hb hg, hh, hle, hm, hs, ht⟩⟩
theorem ownO_base {w : World} {base base' : Nat} {v : Value} {ms : List MO} (h : OwnO w base v ms) (hb : base' ≤ base) : OwnO w base' v ms := ⟨ownRow_base h.1 hb, fun m hm => ownR_base (h.2.1 m hm) hb, h.2.2⟩

/-- Nothing but the blocks S has changed of what there was. -/
structure Ch (S : List Nat) (w w' : World) : Prop where
  os : w'.os = w.os
  tape : w'.tape = w.tape
  output : w'.output = w.output
  size : w.heap.size ≤ w'.heap.size
  block : ∀ k, k < w.heap.size → k ∉ S → w'.heap[k]? = w.heap[k]?
theorem Ch.refl (S : List Nat) (w : World) : Ch S w w := ⟨rfl, rfl, rfl, Nat.le_refl _, fun _ _ _ => rfl⟩
theorem Ch.trans {S : List Nat} {a b c : World} (h : Ch S a b) (k : Ch S b c) : Ch S a c :=
  ⟨k.os.trans h.os, k.tape.trans h.tape, k.output.trans h.output, Nat.le_trans h.size k.size, fun i hi hn => (k.block i (Nat.lt_of_lt_of_le hi h.size) hn).trans (h.block i hi hn)⟩
theorem Ch.mono {S T : List Nat} {a b : World} (h : Ch S a b) (hs : ∀ k ∈ S, k ∈ T) : Ch T a b := ⟨h.os, h.tape, h.output, h.size, fun k hk hn => h.block k hk (fun e => hn (hs k e))⟩
theorem ch_grown {a b : World} {v : Value} (h : a.grownBy b v.ownBlock) : Ch (blk v) a b := ⟨h.os, h.tape, h.output, h.size, fun k hk hn => h.block k hk (fun e => hn (by unfold blk; rw [← e]; simp))⟩
theorem ch_below {S : List Nat} {a b : World} (h : Below a.heap.size a b) : Ch S a b := ⟨h.os, h.tape, h.output, h.size, fun k hk _ => h.block k hk⟩
theorem below_ch {S : List Nat} {B : Nat} {a b : World} (h : Ch S a b) (hb : B ≤ a.heap.size) (hs : ∀ k ∈ S, B ≤ k) : Below B a b := ⟨h.os, h.tape, h.output, h.size, fun k hk => h.block k (by omega) (fun e => by have := hs k e; omega)⟩
theorem row_ch {S : List Nat} {w w' : World} {base size n : Nat} {t : TypeId} {v : Value} {xs : List Value} (h : w.ownsRow base t size v n xs) (hc : Ch S w w') (hd : ∀ k ∈ blk v, k ∉ S) : w'.ownsRow base t size v n xs := by
  obtain ⟨h0, ⟨h1, h2⟩ | ⟨g, cap, cur, h1, hg, hh, hle, hm, hs, ht⟩⟩ := h
  · exact ⟨h0, .inl ⟨h1, h2⟩⟩
  · refine ⟨h0, .inr ⟨g, cap, cur, h1, hg, (hc.block g (lt_of_block hh) (hd g ?_)).trans hh, hle, hm, hs, ht⟩⟩
    rw [h1]; simp [blk, Value.ownBlock]
theorem ownO_ch {S : List Nat} {w w' : World} {base : Nat} {v : Value} {ms : List MO} (h : OwnO w base v ms) (hc : Ch S w w') (hd : ∀ k ∈ blk v ++ blks ms, k ∉ S) : OwnO w' base v ms :=
  ⟨row_ch h.1 hc (fun k hk => hd k (by simp [hk])), fun m hm => row_ch (h.2.1 m hm) hc (fun k hk => hd k (by simp only [blks, List.mem_append, List.mem_flatMap]; exact .inr ⟨m, hm, hk⟩)), h.2.2⟩
theorem blk_lt {w : World} {base n size : Nat} {t : TypeId} {v : Value} {xs : List Value} (h : w.ownsRow base t size v n xs) : ∀ k ∈ blk v, base ≤ k ∧ k < w.heap.size := fun k hk => World.ownsRow.lt h k (by unfold blk at hk; exact Option.mem_toList.1 hk)
theorem blks_lt {w : World} {base : Nat} {v : Value} {ms : List MO} (h : OwnO w base v ms) : ∀ k ∈ blk v ++ blks ms, base ≤ k ∧ k < w.heap.size := by
  intro k hk
  rw [List.mem_append] at hk
  rcases hk with hk | hk
  · exact blk_lt h.1 k hk
  · simp only [blks, List.mem_flatMap] at hk
    obtain ⟨m, hm, hk⟩ := hk
    exact blk_lt (h.2.1 m hm) k hk

/-- An object as a value, and its block. -/
abbrev ov (m : MO) : Value := .agg #[.int .i64 m.id, .int .i64 m.cls, .int .i64 m.fmt, .int .i64 m.hash, m.sv]
abbrev ob (m : MO) : Obj := .cells #[.int .i64 m.id, .int .i64 m.cls, .int .i64 m.fmt, .int .i64 m.hash, m.sv] 51
end Go.Proofs.Ytnahclkhaghpdal.gr
namespace Go.Proofs.Ytnahclkhaghpdal.heads
open Go.RowKit

/-- Is a number within two bounds? -/
def inR (lo hi n : Int) : Bool := decide (lo ≤ n) && decide (n ≤ hi)
theorem inR_true {lo hi n : Int} (h : inR lo hi n = true) : lo ≤ n ∧ n ≤ hi := by simpa [inR] using h
theorem inR_false {lo hi n : Int} (h : inR lo hi n = false) : n < lo ∨ hi < n := by simp [inR] at h; omega

theorem slotsInRange_any (n : Int) (w : World) :
    Calls Try.prog 111 #[.int .i64 n] w fun e w' => e = .returned (.bool (inR 0 20 n)) ∧ w' = w := by
  by_cases h1 : 0 ≤ n
  · by_cases h2 : n ≤ 20
    all_goals
      go_enter Try.func111, Try.ntmps111
      go_wp2
      go_ret
      exact ⟨by simp [inR]; omega, rfl⟩
  · go_enter Try.func111, Try.ntmps111
    go_wp2
    go_ret
    exact ⟨by simp [inR]; omega, rfl⟩

theorem classInRange_any (n : Int) (w : World) :
    Calls Try.prog 112 #[.int .i64 n] w fun e w' => e = .returned (.bool (inR 0 99 n)) ∧ w' = w := by
  by_cases h1 : 0 ≤ n
  · by_cases h2 : n ≤ 99
    all_goals
      go_enter Try.func112, Try.ntmps112
      go_wp2
      go_ret
      exact ⟨by simp [inR]; omega, rfl⟩
  · go_enter Try.func112, Try.ntmps112
    go_wp2
    go_ret
    exact ⟨by simp [inR]; omega, rfl⟩

theorem hashInRange_any (n : Int) (w : World) :
    Calls Try.prog 62 #[.int .i64 n] w fun e w' => e = .returned (.bool (inR 0 65535 n)) ∧ w' = w := by
  by_cases h1 : 0 ≤ n
  · by_cases h2 : n ≤ 65535
    all_goals
      go_enter Try.func62, Try.ntmps62
      go_wp2
      go_ret
      exact ⟨by simp [inR]; omega, rfl⟩
  · go_enter Try.func62, Try.ntmps62
    go_wp2
    go_ret
    exact ⟨by simp [inR]; omega, rfl⟩

/-- A head as the call takes it. -/
abbrev hv (s f c h : Int) (p m : Bool) : Value := .agg #[.int .i64 s, .int .i64 f, .int .i64 c, .int .i64 h, .bool p, .bool m]

/-- What HeadOk asks. -/
def hok (s f c h : Int) (p m : Bool) : Bool :=
  if f = 6 then (s == 0 && c == 0 && h == 0 && !p && !m)
  else (f == 0 || f == 1 || f == 7 || (f == 2 && decide (1 ≤ s))) && inR 0 20 s && inR 0 99 c && inR 0 65535 h

theorem hok_true {s f c h : Int} {p m : Bool} (e : hok s f c h p m = true) : 0 ≤ s ∧ s ≤ 20 ∧ 0 ≤ f ∧ f ≤ 7 ∧ 0 ≤ c ∧ c ≤ 99 ∧ 0 ≤ h ∧ h ≤ 65535 := by
  unfold hok at e
  split at e
  · simp at e; omega
  · simp [inR] at e; omega

/-- The block in which a head lies. -/
abbrev hb (s f c h : Int) (p m : Bool) : Obj := .cells #[.int .i64 s, .int .i64 f, .int .i64 c, .int .i64 h, .bool p, .bool m] 72

theorem headOk_six (s c h : Int) (p m : Bool) (w : World) :
    Calls Try.prog 94 #[hv s 6 c h p m] w fun e w' => e = .returned (.bool (hok s 6 c h p m)) ∧ w' = w.alloc (hb s 6 c h p m) := by
  cases p <;> cases m
  all_goals
    go_enter Try.func94, Try.ntmps94
    go_wp2
  all_goals go_ret
  all_goals exact ⟨by simp [hok, *], by first | rfl | simp [hb, *]⟩

theorem headOk_two_no (s c h : Int) (p m : Bool) (w : World) (h1 : s < 1) :
    Calls Try.prog 94 #[hv s 2 c h p m] w fun e w' => e = .returned (.bool false) ∧ w' = w.alloc (hb s 2 c h p m) := by
  go_enter Try.func94, Try.ntmps94
  go_wp2
  go_ret
  exact ⟨rfl, rfl⟩

theorem headOk_none (s f c h : Int) (p m : Bool) (w : World) (h6 : ¬ f = 6) (h2 : ¬ f = 2) (h0 : ¬ f = 0) (h1 : ¬ f = 1) (h7 : ¬ f = 7) :
    Calls Try.prog 94 #[hv s f c h p m] w fun e w' => e = .returned (.bool false) ∧ w' = w.alloc (hb s f c h p m) := by
  go_enter Try.func94, Try.ntmps94
  go_wp2
  go_ret
  exact ⟨rfl, rfl⟩

/-- The last case: the three bounds, one behind the other. -/
theorem headOk_last (s f c h : Int) (p m : Bool) (w : World) (hf : f = 0 ∨ f = 1 ∨ f = 7 ∨ (f = 2 ∧ ¬ s < 1)) :
    Calls Try.prog 94 #[hv s f c h p m] w fun e w' => e = .returned (.bool (inR 0 20 s && inR 0 99 c && inR 0 65535 h)) ∧ w' = w.alloc (hb s f c h p m) := by
  rcases hf with rfl | rfl | rfl | ⟨rfl, h1⟩
  all_goals
    cases i1 : inR 0 20 s
    · go_enter Try.func94, Try.ntmps94
      go_wp2_with (first | (go_at_call 111; refine (slotsInRange_any _ _).mono ?_; rintro e w' ⟨rfl, rfl⟩) | (go_at_call 112; refine (classInRange_any _ _).mono ?_; rintro e w' ⟨rfl, rfl⟩) | (go_at_call 62; refine (hashInRange_any _ _).mono ?_; rintro e w' ⟨rfl, rfl⟩))
      go_ret
      exact ⟨rfl, rfl⟩
    · cases i2 : inR 0 99 c
      all_goals
        go_enter Try.func94, Try.ntmps94
        go_wp2_with (first | (go_at_call 111; refine (slotsInRange_any _ _).mono ?_; rintro e w' ⟨rfl, rfl⟩) | (go_at_call 112; refine (classInRange_any _ _).mono ?_; rintro e w' ⟨rfl, rfl⟩) | (go_at_call 62; refine (hashInRange_any _ _).mono ?_; rintro e w' ⟨rfl, rfl⟩))
        go_ret
        exact ⟨rfl, rfl⟩

theorem headOk_any (s f c h : Int) (p m : Bool) (w : World) :
    Calls Try.prog 94 #[hv s f c h p m] w fun e w' => e = .returned (.bool (hok s f c h p m)) ∧ w' = w.alloc (hb s f c h p m) := by
  by_cases h6 : f = 6
  · subst h6; exact headOk_six s c h p m w
  · by_cases hl : f = 0 ∨ f = 1 ∨ f = 7 ∨ (f = 2 ∧ ¬ s < 1)
    · have e : hok s f c h p m = (inR 0 20 s && inR 0 99 c && inR 0 65535 h) := by
        rcases hl with rfl | rfl | rfl | ⟨rfl, h1⟩
        · simp [hok]
        · simp [hok]
        · simp [hok]
        · have : 1 ≤ s := by omega
          simp [hok, this]
      rw [e]
      exact headOk_last s f c h p m w hl
    · have e : hok s f c h p m = false := by
        simp [hok, h6]; omega
      rw [e]
      by_cases h2 : f = 2
      · subst h2; exact headOk_two_no s c h p m w (by omega)
      · exact headOk_none s f c h p m w h6 h2 (by omega) (by omega) (by omega)

theorem l1In_any (x lo hi : Int) (w : World) :
    Calls Try.prog 55 #[.int .i64 x, .int .i64 lo, .int .i64 hi] w fun e w' => e = .returned (.bool (inR lo hi x)) ∧ w' = w := by
  by_cases h1 : lo ≤ x
  · by_cases h2 : x ≤ hi
    all_goals
      go_enter Try.func55, Try.ntmps55
      go_wp2
      all_goals go_ret
      all_goals exact ⟨by simp [inR, h1, h2], rfl⟩
  · go_enter Try.func55, Try.ntmps55
    go_wp2
    all_goals go_ret
    all_goals exact ⟨by simp [inR]; omega, rfl⟩

theorem sHeadOk_any (s f c h : Int) (p m : Bool) (w : World) :
    Calls Try.prog 56 #[hv s f c h p m] w fun e w' => e = .returned (.bool (hok s f c h p m)) ∧ w' = w.alloc (hb s f c h p m) := by
  cases i1 : inR 0 20 s
  · have e : hok s f c h p m = false := by
      have := inR_false i1
      unfold hok; split
      · simp; omega
      · simp [i1]
    rw [e]; clear e
    go_enter Try.func56, Try.ntmps56
    go_wp2_with (go_at_call 55; refine (l1In_any _ _ _ _).mono ?_; rintro e w' ⟨rfl, rfl⟩)
    go_ret
    exact ⟨rfl, rfl⟩
  · cases i2 : inR 0 99 c
    · have e : hok s f c h p m = false := by
        have := inR_false i2
        unfold hok; split
        · simp; omega
        · simp [i2]
      rw [e]; clear e
      go_enter Try.func56, Try.ntmps56
      go_wp2_with (go_at_call 55; refine (l1In_any _ _ _ _).mono ?_; rintro e w' ⟨rfl, rfl⟩)
      go_ret
      exact ⟨rfl, rfl⟩
    · cases i3 : inR 0 65535 h
      · have e : hok s f c h p m = false := by
          have := inR_false i3
          unfold hok; split
          · simp; omega
          · simp [i3]
        rw [e]; clear e
        go_enter Try.func56, Try.ntmps56
        go_wp2_with (go_at_call 55; refine (l1In_any _ _ _ _).mono ?_; rintro e w' ⟨rfl, rfl⟩)
        go_ret
        exact ⟨rfl, rfl⟩
      · have e : hok s f c h p m = if f = 6 then (s == 0 && c == 0 && h == 0 && !p && !m) else (f == 0 || f == 1 || f == 7 || (f == 2 && decide (1 ≤ s))) := by
          simp [hok, i1, i2, i3]
        rw [e]; clear e
        by_cases h6 : f = 6
        · subst h6
          cases p <;> cases m
          all_goals
            go_enter Try.func56, Try.ntmps56
            go_wp2_with (go_at_call 55; refine (l1In_any _ _ _ _).mono ?_; rintro e w' ⟨rfl, rfl⟩)
          all_goals go_ret
          all_goals exact ⟨by simp [*], by first | rfl | simp [hb, *]⟩
        · by_cases h2 : f = 2
          · subst h2
            by_cases h1 : s > 0
            all_goals
              go_enter Try.func56, Try.ntmps56
              go_wp2_with (go_at_call 55; refine (l1In_any _ _ _ _).mono ?_; rintro e w' ⟨rfl, rfl⟩)
              go_ret
              exact ⟨by simp; omega, rfl⟩
          · by_cases h0 : f = 0
            · subst h0
              go_enter Try.func56, Try.ntmps56
              go_wp2_with (go_at_call 55; refine (l1In_any _ _ _ _).mono ?_; rintro e w' ⟨rfl, rfl⟩)
              go_ret
              exact ⟨rfl, rfl⟩
            · by_cases h1 : f = 1
              · subst h1
                go_enter Try.func56, Try.ntmps56
                go_wp2_with (go_at_call 55; refine (l1In_any _ _ _ _).mono ?_; rintro e w' ⟨rfl, rfl⟩)
                go_ret
                exact ⟨rfl, rfl⟩
              · by_cases h7 : f = 7
                · subst h7
                  go_enter Try.func56, Try.ntmps56
                  go_wp2_with (go_at_call 55; refine (l1In_any _ _ _ _).mono ?_; rintro e w' ⟨rfl, rfl⟩)
                  go_ret
                  exact ⟨rfl, rfl⟩
                · go_enter Try.func56, Try.ntmps56
                  go_wp2_with (go_at_call 55; refine (l1In_any _ _ _ _).mono ?_; rintro e w' ⟨rfl, rfl⟩)
                  go_ret
                  exact ⟨by simp [*], rfl⟩

end Go.Proofs.Ytnahclkhaghpdal.heads
namespace Go.Proofs.Ytnahclkhaghpdal.heads
open Go.RowKit

/-- The block b holds such a head. -/
def HeadAt (w : World) (b : Nat) (s f c h : Int) (p m : Bool) : Prop := w.heap[b]? = some (.cells #[.int .i64 s, .int .i64 f, .int .i64 c, .int .i64 h, .bool p, .bool m] 72 (0, 0))

theorem headAt_cells {w : World} {b : Nat} {s f c h : Int} {p m : Bool} (hh : HeadAt w b s f c h p m) :
    w.cell? ⟨b, 0, none⟩ = some (.int .i64 s) ∧ w.cell? ⟨b, 1, none⟩ = some (.int .i64 f) ∧ w.cell? ⟨b, 2, none⟩ = some (.int .i64 c) ∧ w.cell? ⟨b, 3, none⟩ = some (.int .i64 h) ∧ w.cell? ⟨b, 4, none⟩ = some (.bool p) ∧ w.cell? ⟨b, 5, none⟩ = some (.bool m) ∧ ∀ k, w.frozen? ⟨b, k, none⟩ = false := by
  unfold HeadAt at hh
  refine ⟨?_, ?_, ?_, ?_, ?_, ?_, fun k => ?_⟩
  all_goals simp [World.cell?, World.frozen?, hh]

theorem cells_setCell {w : World} {b : Nat} {c : Array Value} {t : TypeId} (h : w.heap[b]? = some (.cells c t (0, 0))) (k : Nat) (u : Value) :
    (w.setCell ⟨b, k, none⟩ u).heap[b]? = some (.cells (c.setIfInBounds k u) t (0, 0)) := by
  have hlt := lt_of_block h
  have h' : w.heap[b] = .cells c t (0, 0) := by simpa [Array.getElem?_eq_getElem hlt] using h
  show (w.heap.modify b _)[b]? = _
  rw [Array.getElem?_eq_getElem (by simpa using hlt), Array.getElem_modify_self, h']
  rfl
theorem headAt_alloc {w : World} {b : Nat} {s f c h : Int} {p m : Bool} (hh : HeadAt w b s f c h p m) (o : Obj) : HeadAt (w.alloc o) b s f c h p m := (Below.heap_alloc w o b (lt_of_block hh)).trans hh
theorem headAt_new (w : World) (s f c h : Int) (p m : Bool) : HeadAt (w.alloc (hb s f c h p m)) w.heap.size s f c h p m := heap_alloc_new w _
theorem headAt_other {w : World} {b : Nat} {s f c h : Int} {p m : Bool} (hh : HeadAt w b s f c h p m) {q : Addr} (hne : b ≠ q.block) (u : Value) : HeadAt (w.setCell q u) b s f c h p m := (Below.heap_setCell w q u b hne).trans hh
theorem headAt_set0 {w : World} {b : Nat} {s f c h : Int} {p m : Bool} (hh : HeadAt w b s f c h p m) (x : Int) : HeadAt (w.setCell ⟨b, 0, none⟩ (.int .i64 x)) b x f c h p m := (cells_setCell hh 0 _).trans rfl
theorem headAt_set1 {w : World} {b : Nat} {s f c h : Int} {p m : Bool} (hh : HeadAt w b s f c h p m) (x : Int) : HeadAt (w.setCell ⟨b, 1, none⟩ (.int .i64 x)) b s x c h p m := (cells_setCell hh 1 _).trans rfl
theorem headAt_set2 {w : World} {b : Nat} {s f c h : Int} {p m : Bool} (hh : HeadAt w b s f c h p m) (x : Int) : HeadAt (w.setCell ⟨b, 2, none⟩ (.int .i64 x)) b s f x h p m := (cells_setCell hh 2 _).trans rfl
theorem headAt_set3 {w : World} {b : Nat} {s f c h : Int} {p m : Bool} (hh : HeadAt w b s f c h p m) (x : Int) : HeadAt (w.setCell ⟨b, 3, none⟩ (.int .i64 x)) b s f c x p m := (cells_setCell hh 3 _).trans rfl
theorem headAt_set4 {w : World} {b : Nat} {s f c h : Int} {p m : Bool} (hh : HeadAt w b s f c h p m) (x : Bool) : HeadAt (w.setCell ⟨b, 4, none⟩ (.bool x)) b s f c h x m := (cells_setCell hh 4 _).trans rfl
theorem headAt_set5 {w : World} {b : Nat} {s f c h : Int} {p m : Bool} (hh : HeadAt w b s f c h p m) (x : Bool) : HeadAt (w.setCell ⟨b, 5, none⟩ (.bool x)) b s f c h p x := (cells_setCell hh 5 _).trans rfl

theorem res_head {fn : Func} {tmps : Array Value} {X : World} {b : Nat} {s f c h : Int} {p m : Bool} (hf : fn.results = #[.cell 2 72]) (h2 : tmps[2]? = some (.pointer (some ⟨b, 0, none⟩))) (hX : HeadAt X b s f c h p m) :
    (results fn tmps).run Try.prog X = .ok (hv s f c h p m) X := by
  obtain ⟨k0, k1, k2, k3, k4, k5, _⟩ := headAt_cells hX
  clear hX
  simp [results, hf, h2, go_sem, k0, k1, k2, k3, k4, k5]
theorem res_head_at {fn : Func} {tmps : Array Value} {X : World} {j b : Nat} {s f c h : Int} {p m : Bool} (hf : fn.results = #[.cell j 72]) (h2 : tmps[j]? = some (.pointer (some ⟨b, 0, none⟩))) (hX : HeadAt X b s f c h p m) :
    (results fn tmps).run Try.prog X = .ok (hv s f c h p m) X := by
  obtain ⟨k0, k1, k2, k3, k4, k5, _⟩ := headAt_cells hX
  clear hX
  simp [results, hf, h2, go_sem, k0, k1, k2, k3, k4, k5]
theorem res_head_two {fn : Func} {tmps : Array Value} {X : World} {j i k b : Nat} {s f c h : Int} {p m : Bool} {v u : Value} (hf : fn.results = #[.cell j 72, .tmp i, .tmp k]) (h2 : tmps[j]? = some (.pointer (some ⟨b, 0, none⟩))) (hi : tmps[i]? = some v) (hk : tmps[k]? = some u) (hX : HeadAt X b s f c h p m) :
    (results fn tmps).run Try.prog X = .ok (.tuple #[hv s f c h p m, v, u]) X := by
  obtain ⟨k0, k1, k2, k3, k4, k5, _⟩ := headAt_cells hX
  clear hX
  simp [results, hf, h2, hi, hk, go_sem, k0, k1, k2, k3, k4, k5]
theorem headAt_below {w w' : World} {b : Nat} {s f c h : Int} {p m : Bool} (T : HeadAt w b s f c h p m) (hb : Below w.heap.size w w') : HeadAt w' b s f c h p m := (hb.block b (lt_of_block T)).trans T
theorem six_set {X : World} {b : Nat} {s' f' c' h' : Int} {p' m' : Bool} (T : HeadAt X b s' f' c' h' p' m') (s f c h : Int) (p m : Bool) :
    HeadAt ((((((X.setCell ⟨b, 0, none⟩ (.int .i64 s)).setCell ⟨b, 1, none⟩ (.int .i64 f)).setCell ⟨b, 2, none⟩ (.int .i64 c)).setCell ⟨b, 3, none⟩ (.int .i64 h)).setCell ⟨b, 4, none⟩ (.bool p)).setCell ⟨b, 5, none⟩ (.bool m)) b s f c h p m :=
  headAt_set5 (headAt_set4 (headAt_set3 (headAt_set2 (headAt_set1 (headAt_set0 T _) _) _) _) _) _
theorem six_below {n : Nat} {w X : World} {b : Nat} (hB : Below n w X) (hb : n ≤ b) (s f c h : Int) (p m : Bool) : Below n w ((((((X.setCell ⟨b, 0, none⟩ (.int .i64 s)).setCell ⟨b, 1, none⟩ (.int .i64 f)).setCell ⟨b, 2, none⟩ (.int .i64 c)).setCell ⟨b, 3, none⟩ (.int .i64 h)).setCell ⟨b, 4, none⟩ (.bool p)).setCell ⟨b, 5, none⟩ (.bool m)) :=
  (((((hB.setCell (p := ⟨b, 0, none⟩) hb _).setCell (p := ⟨b, 1, none⟩) hb _).setCell (p := ⟨b, 2, none⟩) hb _).setCell (p := ⟨b, 3, none⟩) hb _).setCell (p := ⟨b, 4, none⟩) hb _).setCell (p := ⟨b, 5, none⟩) hb _
end Go.Proofs.Ytnahclkhaghpdal.heads
namespace Go.Proofs.Ytnahclkhaghpdal.gr
open Go.RowKit rows heads
set_option maxRecDepth 100000

theorem infoO : (Try.prog.info? 51).map (fun i => (i.zero, i.size, i.bytes)) = some (some (.agg #[.int .i64 0, .int .i64 0, .int .i64 0, .int .i64 0, .slice none 0 0]), 5, 56) := by kernel_rfl

/-- A block of five cells. -/
def Five (w : World) (b : Nat) (t : TypeId) (c0 c1 c2 c3 c4 : Value) : Prop := w.heap[b]? = some (.cells #[c0, c1, c2, c3, c4] t (0, 0))
theorem five_cells {w : World} {b : Nat} {t : TypeId} {c0 c1 c2 c3 c4 : Value} (h : Five w b t c0 c1 c2 c3 c4) : w.cell? ⟨b, 0, none⟩ = some c0 ∧ w.cell? ⟨b, 1, none⟩ = some c1 ∧ w.cell? ⟨b, 2, none⟩ = some c2 ∧ w.cell? ⟨b, 3, none⟩ = some c3 ∧ w.cell? ⟨b, 4, none⟩ = some c4 ∧ ∀ k, w.frozen? ⟨b, k, none⟩ = false := by
  unfold Five at h
  refine ⟨?_, ?_, ?_, ?_, ?_, fun k => ?_⟩
  all_goals simp [World.cell?, World.frozen?, h]
theorem five_below {w w' : World} {b : Nat} {t : TypeId} {c0 c1 c2 c3 c4 : Value} (h : Five w b t c0 c1 c2 c3 c4) (hb : Below w.heap.size w w') : Five w' b t c0 c1 c2 c3 c4 := (hb.block b (lt_of_block h)).trans h
theorem five_new (w : World) (t : TypeId) (c0 c1 c2 c3 c4 : Value) : Five (w.alloc (.cells #[c0, c1, c2, c3, c4] t)) w.heap.size t c0 c1 c2 c3 c4 := heap_alloc_new w _
theorem five_set0 {w : World} {b : Nat} {t : TypeId} {c0 c1 c2 c3 c4 : Value} (h : Five w b t c0 c1 c2 c3 c4) (u : Value) : Five (w.setCell ⟨b, 0, none⟩ u) b t u c1 c2 c3 c4 := (cells_setCell h 0 u).trans (by simp)
theorem five_set1 {w : World} {b : Nat} {t : TypeId} {c0 c1 c2 c3 c4 : Value} (h : Five w b t c0 c1 c2 c3 c4) (u : Value) : Five (w.setCell ⟨b, 1, none⟩ u) b t c0 u c2 c3 c4 := (cells_setCell h 1 u).trans (by simp)
theorem five_set2 {w : World} {b : Nat} {t : TypeId} {c0 c1 c2 c3 c4 : Value} (h : Five w b t c0 c1 c2 c3 c4) (u : Value) : Five (w.setCell ⟨b, 2, none⟩ u) b t c0 c1 u c3 c4 := (cells_setCell h 2 u).trans (by simp)
theorem five_set3 {w : World} {b : Nat} {t : TypeId} {c0 c1 c2 c3 c4 : Value} (h : Five w b t c0 c1 c2 c3 c4) (u : Value) : Five (w.setCell ⟨b, 3, none⟩ u) b t c0 c1 c2 u c4 := (cells_setCell h 3 u).trans (by simp)
theorem five_set4 {w : World} {b : Nat} {t : TypeId} {c0 c1 c2 c3 c4 : Value} (h : Five w b t c0 c1 c2 c3 c4) (u : Value) : Five (w.setCell ⟨b, 4, none⟩ u) b t c0 c1 c2 c3 u := (cells_setCell h 4 u).trans (by simp)
theorem five_sets {w : World} {b : Nat} {t : TypeId} {c0 c1 c2 c3 c4 : Value} (h : Five w b t c0 c1 c2 c3 c4) (u0 u1 u2 u3 u4 : Value) : Five (((((w.setCell ⟨b, 0, none⟩ u0).setCell ⟨b, 1, none⟩ u1).setCell ⟨b, 2, none⟩ u2).setCell ⟨b, 3, none⟩ u3).setCell ⟨b, 4, none⟩ u4) b t u0 u1 u2 u3 u4 :=
  five_set4 (five_set3 (five_set2 (five_set1 (five_set0 h _) _) _) _) _
theorem five_belows {n : Nat} {w X : World} {b : Nat} (hB : Below n w X) (hb : n ≤ b) (u0 u1 u2 u3 u4 : Value) : Below n w (((((X.setCell ⟨b, 0, none⟩ u0).setCell ⟨b, 1, none⟩ u1).setCell ⟨b, 2, none⟩ u2).setCell ⟨b, 3, none⟩ u3).setCell ⟨b, 4, none⟩ u4) :=
  ((((hB.setCell (p := ⟨b, 0, none⟩) hb _).setCell (p := ⟨b, 1, none⟩) hb _).setCell (p := ⟨b, 2, none⟩) hb _).setCell (p := ⟨b, 3, none⟩) hb _).setCell (p := ⟨b, 4, none⟩) hb _
theorem five_other {X : World} {b : Nat} (u0 u1 u2 u3 u4 : Value) : Ch [b] X (((((X.setCell ⟨b, 0, none⟩ u0).setCell ⟨b, 1, none⟩ u1).setCell ⟨b, 2, none⟩ u2).setCell ⟨b, 3, none⟩ u3).setCell ⟨b, 4, none⟩ u4) := by
  have one : ∀ (Y : World) (k : Nat) (u : Value), Ch [b] Y (Y.setCell ⟨b, k, none⟩ u) := fun Y k u => ⟨rfl, rfl, rfl, by simp, fun j _ hn => Below.heap_setCell Y _ u j (fun e => hn (by simp [e]))⟩
  exact ((((one _ 0 _).trans (one _ 1 _)).trans (one _ 2 _)).trans (one _ 3 _)).trans (one _ 4 _)
theorem res_five {fn : Func} {tmps : Array Value} {X : World} {j b : Nat} {x0 x1 x2 x3 : Int} {a : Option Addr} {n c : Nat} (hf : fn.results = #[.cell j 51]) (h2 : tmps[j]? = some (.pointer (some ⟨b, 0, none⟩))) (hX : Five X b 51 (.int .i64 x0) (.int .i64 x1) (.int .i64 x2) (.int .i64 x3) (.slice a n c)) :
    (results fn tmps).run Try.prog X = .ok (.agg #[.int .i64 x0, .int .i64 x1, .int .i64 x2, .int .i64 x3, .slice a n c]) X := by
  obtain ⟨k0, k1, k2, k3, k4, _⟩ := five_cells hX
  clear hX
  simp [results, hf, h2, go_sem, k0, k1, k2, k3, k4]

set_option maxHeartbeats 4000000 in
theorem toObj_any {w : World} (m : MO) (h : RefsAt w m.sv m.slots) (hl : m.slots.length ≤ 1048576) :
    Calls Try.prog 60 #[ov m] w fun e w' => ∃ q, w.heap.size ≤ q ∧ e = .returned (ov { m with sv := .slice (some ⟨q, 0, none⟩) m.slots.length m.slots.length }) ∧ FullR w' q m.slots ∧ Below w.heap.size w w' := by
  obtain ⟨x0, x1, x2, x3, sv, es⟩ := m
  obtain ⟨a, cap, hsv, h1, h2, h4, h3⟩ := h
  have h : RefsAt w sv es := ⟨a, cap, hsv, h1, h2, h4, h3⟩
  clear h1 h2 h4 h3
  have hsv : sv = .slice a es.length cap := hsv
  subst hsv
  obtain ⟨X, hX⟩ : ∃ X, X = ((w.alloc (.cells #[.int .i64 x0, .int .i64 x1, .int .i64 x2, .int .i64 x3, .slice a es.length cap] 68)).alloc (.cells #[.int .i64 0, .int .i64 0, .int .i64 0, .int .i64 0, .slice none 0 0] 51)).alloc (.cells #[.int .i64 x0, .int .i64 x1, .int .i64 x2, .int .i64 x3, .slice none 0 0] 51) := ⟨_, rfl⟩
  have HX : Hid _ := hX
  have BX : Below w.heap.size w X := by
    rw [hX]
    exact (((Below.refl _ w).alloc (Nat.le_refl _) _).alloc (by simp) _).alloc (by simp; omega) _
  have sX : X.heap.size = w.heap.size + 3 := by rw [hX]; simp
  have T2 : Five X (w.heap.size + 1) 51 (.int .i64 0) (.int .i64 0) (.int .i64 0) (.int .i64 0) (.slice none 0 0) := by
    rw [hX]
    have := five_new (w.alloc (.cells #[.int .i64 x0, .int .i64 x1, .int .i64 x2, .int .i64 x3, .slice a es.length cap] 68)) 51 (.int .i64 0) (.int .i64 0) (.int .i64 0) (.int .i64 0) (.slice none 0 0)
    have := five_below this ((Below.refl _ _).alloc (Nat.le_refl _) (.cells #[.int .i64 x0, .int .i64 x1, .int .i64 x2, .int .i64 x3, .slice none 0 0] 51))
    simpa using this
  have T3 : Five X (w.heap.size + 2) 51 (.int .i64 x0) (.int .i64 x1) (.int .i64 x2) (.int .i64 x3) (.slice none 0 0) := by
    rw [hX]
    have := five_new ((w.alloc (.cells #[.int .i64 x0, .int .i64 x1, .int .i64 x2, .int .i64 x3, .slice a es.length cap] 68)).alloc (.cells #[.int .i64 0, .int .i64 0, .int .i64 0, .int .i64 0, .slice none 0 0] 51)) 51 (.int .i64 x0) (.int .i64 x1) (.int .i64 x2) (.int .i64 x3) (.slice none 0 0)
    simpa using this
  have TR := toRefS_any (refsAt_below h BX) hl
  clear hX h
  go_enter Try.func60, Try.ntmps60
  go_wp2_with fail
  rw [← HX.out]
  refine TR.mono ?_
  rintro e w2 ⟨rfl, F2, b2⟩
  have U2 := five_below T2 b2
  have U3 := five_below T3 b2
  have s2 := b2.size
  have hq : w.heap.size ≤ X.heap.size := by omega
  have l2 : w.heap.size ≤ w.heap.size + 1 := by omega
  have l3 : w.heap.size ≤ w.heap.size + 1 + 1 := by omega
  have n23 : w.heap.size + 1 ≠ w.heap.size + 1 + 1 := by omega
  have n2q : X.heap.size ∉ [w.heap.size + 1] := by simp; omega
  have n3q : X.heap.size ∉ [w.heap.size + 1 + 1] := by simp; omega
  have B2 := BX.trans (b2.mono hq)
  have lq := lt_of_block F2
  obtain ⟨k0, k1, k2, k3, k4, kf⟩ := five_cells U2
  obtain ⟨j0, j1, j2, j3, j4, jf⟩ := five_cells U3
  have f4 := jf 4
  have z0 := kf 0
  have z1 := kf 1
  have z2 := kf 2
  have z3 := kf 3
  have z4 := kf 4
  have HU2 : Hid _ := U2
  have HF2 : Hid _ := F2
  have HB2 : Hid _ := B2
  clear U2 U3 T2 T3 TR HX BX b2 F2 B2 kf jf sX s2
  generalize X.heap.size = q at *
  generalize hb3 : w.heap.size + 1 + 1 = B3 at *
  generalize hb2 : w.heap.size + 1 = B2 at *
  go_wp2
  have V2 : Five (w2.setCell ⟨B3, 4, none⟩ (.slice (some ⟨q, 0, none⟩) es.length es.length)) B2 51 (.int .i64 0) (.int .i64 0) (.int .i64 0) (.int .i64 0) (.slice none 0 0) := (Below.heap_setCell w2 ⟨B3, 4, none⟩ _ B2 n23).trans HU2.out
  have V3 : FullR (w2.setCell ⟨B3, 4, none⟩ (.slice (some ⟨q, 0, none⟩) es.length es.length)) q es := (Below.heap_setCell w2 ⟨B3, 4, none⟩ _ q (by simpa using n3q)).trans HF2.out
  exact bodyPost_ret (res_five rfl rfl (five_sets V2 (.int .i64 x0) (.int .i64 x1) (.int .i64 x2) (.int .i64 x3) (.slice (some ⟨q, 0, none⟩) es.length es.length))) rfl ⟨q, hq, rfl, ((five_other _ _ _ _ _).block q (by simpa using lq) n2q).trans V3, five_belows (HB2.out.setCell (p := ⟨B3, 4, none⟩) l3 _) l2 _ _ _ _ _⟩
end Go.Proofs.Ytnahclkhaghpdal.gr
