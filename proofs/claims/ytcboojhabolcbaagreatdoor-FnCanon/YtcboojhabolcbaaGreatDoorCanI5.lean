/-
  Chapter 6 as the program has it: Canon.
  Made from the template CanI5 (mkcani5.py, CanI5.head, regtail.py).
-/
import Derived.Test.YtcboojhabolcbaaGreatDoorM10
import Derived.Test.YtcboojhabolcbaaGreatDoorM9
import Derived.Test.YtcboojhabolcbaaGreatDoorM4
import Derived.Test.YtcboojhabolcbaaGreatDoorM7
namespace Go.Proofs.YtcboojhabolcbaaGreatDoor.gr
open Go.RowKit rows heads ents region
set_option maxRecDepth 100000
set_option linter.unusedVariables false
set_option linter.unusedSimpArgs false

/-- What Canon answers. -/
def canA (G : Gr) : ByteArray := if gOk G = true then bs (canT G) else ⟨#[]⟩
/-- The builder, so far with these bytes. -/
abbrev BuC (b : Nat) (l : List UInt8) (w : World) : Prop := Lib.IsBuilder 52 5 b b (Lib.byteCells l) w
theorem buC_below {b : Nat} {l : List UInt8} {w w' : World} (h : BuC b l w) (hb : Below w.heap.size w w') : BuC b l w' := by
  have go : ∀ p, Lib.BuilderAt 52 5 b b p (Lib.byteCells l) w → Lib.BuilderAt 52 5 b b p (Lib.byteCells l) w' := fun p h => by
    obtain ⟨h1, v, h2, h3, h4⟩ := h
    exact ⟨h1, v, (hb.block _ (lt_of_block h2)).trans h2, row_below h3 hb, h4⟩
  exact h.imp (go _) (go _)
theorem buC_more {b : Nat} {l : List UInt8} {s : List UInt8} {w : World} (h : Lib.BuilderAt 52 5 b b (.pointer (some ⟨b, 0, none⟩)) (Lib.byteCells l ++ Lib.strCells (bs s)) w) : BuC b (l ++ s) w := by
  rw [Lib.strCells_eq] at h
  rw [show (bs s).data.toList = s from rfl, ← Lib.byteCells_append] at h
  exact .inr h
theorem wstr_any {b : Nat} {l s : List UInt8} {w : World} (h : BuC b l w) (hl : l.length + s.length ≤ 140737488355328) (hb : b ≤ w.heap.size) :
    Calls Tryz.prog 24 #[.pointer (some ⟨b, 0, none⟩), .string (bs s)] w fun e w' => e = .returned (.tuple #[.int .i64 ((bs s).size : Int), .nilIface]) ∧ BuC b (l ++ s) w' ∧ Below b w w' :=
  (wstr_lib b b (Lib.byteCells l) (bs s) w h (by rw [Lib.byteCells_length, bs_size]; exact hl) hb).mono fun e w' ⟨h1, h2, h3⟩ => ⟨h1, buC_more h2, h3⟩
theorem own_nilT (w : World) (base : Nat) : OwnT w base (.slice none 0 0) [] := ⟨rfl, .inl ⟨rfl, rfl⟩⟩
theorem Right.refs {G : Gr} (h : Right G) : ∀ r ∈ G.roots ++ G.mourned, refOk G.objs r = true ∧ I64 r.2 ∧ (r.1 = 2 → r.2 ∈ ordG G) := fun r hr =>
  ⟨h.lead_root r hr, refOk_I64 h.id64 (h.lead_root r hr), (ordG_facts h).2.1 r hr⟩
theorem Right.refsO {G : Gr} (h : Right G) {x : Int} (hx : x ∈ ordG G) : ∀ r ∈ slotsI G.objs x, refOk G.objs r = true ∧ I64 r.2 ∧ (r.1 = 2 → r.2 ∈ ordG G) := fun r hr => by
  have hf := ordG_facts h
  have hl := h.lead_slot (hf.1.2 x hx) r hr
  exact ⟨hl, refOk_I64 h.id64 hl, hf.2.2 x hx r hr⟩
theorem Right.ob_small {G : Gr} (h : Right G) {i : Nat} (hi : i < G.objs.length) : I64 (G.objs.getD i obD).cls ∧ I64 (G.objs.getD i obD).fmt ∧ I64 (G.objs.getD i obD).hash ∧ (G.objs.getD i obD).slots.length ≤ 20 := by
  have hh := hok_true (obOk_lt (h.ob i hi)).2.2.2
  refine ⟨⟨by omega, by omega⟩, ⟨by omega, by omega⟩, ⟨by omega, by omega⟩, by omega⟩
theorem Right.ord_len {G : Gr} (h : Right G) : (ordG G).length ≤ 200 := Nat.le_trans (idsO_len (ordG_facts h).1) (gOk_len h.gOk).1
theorem flat_len {f : Int → List UInt8} {B : Nat} : ∀ (o : List Int), (∀ x ∈ o, (f x).length ≤ B) → ((o.map f).flatten).length ≤ o.length * B
  | [], _ => by simp
  | a :: o, h => by
    have h1 := h a (List.mem_cons_self ..)
    have h2 := flat_len o (fun x hx => h x (List.mem_cons_of_mem _ hx))
    rw [List.map_cons, List.flatten_cons, List.length_append, List.length_cons, Nat.add_mul]
    omega
theorem itoa_22 {n : Int} (h : I64 n) : (Lib.itoa n).length ≤ 100 := by
  have := Lib.itoa_length_le n h.1 h.2
  omega
theorem Right.objT_len {G : Gr} (h : Right G) {x : Int} (hx : x ∈ ordG G) : (objT G.objs (ordG G) x).length ≤ 3000 := by
  have hat := (ordG_facts h).1.2 x hx
  have hs := h.ob_small (atI_is hat).1
  have hol := h.ord_len
  unfold objT
  have hl := lineT_len (n := 100) (ws := [Lib.itoa (G.objs.getD (atI G.objs x).toNat obD).cls, Lib.itoa (G.objs.getD (atI G.objs x).toNat obD).fmt, Lib.itoa (G.objs.getD (atI G.objs x).toNat obD).hash] ++ (slotsI G.objs x).map (wordT (ordG G))) (fun a ha => by
    rcases List.mem_append.1 ha with ha | ha
    · simp only [List.mem_cons, List.not_mem_nil, or_false] at ha
      rcases ha with rfl | rfl | rfl
      · exact itoa_22 hs.1
      · exact itoa_22 hs.2.1
      · exact itoa_22 hs.2.2.1
    · obtain ⟨r, hr, rfl⟩ := List.mem_map.1 ha
      have := h.refsO hx r hr
      have := wordT_len this.1 (by omega) this.2.2
      omega)
  rw [List.length_append, List.length_map] at hl
  have h3 : (slotsI G.objs x).length ≤ 20 := hs.2.2.2
  simp only [List.length_cons, List.length_nil] at hl
  have : (0 + 1 + 1 + 1 + (slotsI G.objs x).length) * (100 + 1) ≤ 23 * 101 := Nat.mul_le_mul_right _ (by omega)
  omega
theorem Right.line0_len {G : Gr} (h : Right G) : (lineT ((G.roots ++ G.mourned).map (wordT (ordG G)))).length ≤ 5000 := by
  have hl := lineT_len (n := 100) (ws := (G.roots ++ G.mourned).map (wordT (ordG G))) (fun a ha => by
    obtain ⟨r, hr, rfl⟩ := List.mem_map.1 ha
    have := h.refs r hr
    have := wordT_len this.1 (by have := h.ord_len; omega) this.2.2
    omega)
  rw [List.length_map, List.length_append] at hl
  have h1 := gOk_len h.gOk
  have : (G.roots.length + G.mourned.length) * (100 + 1) ≤ 46 * 101 := Nat.mul_le_mul_right _ (by omega)
  omega
/-- The text, so far. -/
def canK (G : Gr) (k : Nat) : List UInt8 := lineT ((G.roots ++ G.mourned).map (wordT (ordG G))) ++ (((ordG G).take k).map (objT G.objs (ordG G))).flatten
theorem canK_len {G : Gr} (h : Right G) (k : Nat) : (canK G k).length ≤ 700000 := by
  have h1 := h.line0_len
  have h2 := flat_len (f := objT G.objs (ordG G)) (B := 3000) ((ordG G).take k) (fun x hx => h.objT_len (List.mem_of_mem_take hx))
  have h3 : ((ordG G).take k).length ≤ 200 := by rw [List.length_take]; have := h.ord_len; omega
  have : ((ordG G).take k).length * 3000 ≤ 200 * 3000 := Nat.mul_le_mul_right _ h3
  unfold canK
  rw [List.length_append]
  omega
theorem canK_next {G : Gr} {k : Nat} (hk : k < (ordG G).length) : canK G (k + 1) = canK G k ++ objT G.objs (ordG G) ((ordG G).getD k 0) := by
  have e : ((ordG G).take (k + 1)).map (objT G.objs (ordG G)) = ((ordG G).take k).map (objT G.objs (ordG G)) ++ [objT G.objs (ordG G) ((ordG G).getD k 0)] := by rw [take_one (d := (0 : Int)) hk, List.map_append]; rfl
  unfold canK
  rw [e, List.flatten_append, List.append_assoc]
  simp
theorem canK_end {G : Gr} : canK G (ordG G).length = canT G := by
  unfold canK canT
  rw [List.take_length]
def dCa9 (k : Nat) : Nat := match k with
  | 0 => 30
  | 1 => 31
  | 2 => 32
  | 3 => 33
  | 4 => 34
  | 5 => 35
  | 6 => 36
  | 7 => 37
  | 8 => 38
  | 9 => 39
  | 10 => 40
  | 11 => 41
  | 12 => 42
  | _ => 2000
theorem dCa9_inj : ∀ k, k < 13 → ∀ j, j < 13 → dCa9 j = dCa9 k → j = k := by decide
def DCa9 (s : Nat) : Bool := s == 30 || s == 31 || s == 32 || s == 33 || s == 34 || s == 35 || s == 36 || s == 37 || s == 38 || s == 39 || s == 40 || s == 41 || s == 42 || s == 43 || s == 44
def FCa9 (C q B : Nat) (mcl mf mh : Int) (sa : Option Addr) (sn sc : Nat) (k : Nat) (t : Value) (W : World) : Prop :=
  match k with
  | 0 => t = .pointer (some ⟨C, 0, none⟩)
  | 1 => t = .pointer (some ⟨q, 1, none⟩)
  | 2 => t = .int .i64 mcl
  | 3 => t = .string (bs (Lib.itoa mcl))
  | 4 => t = .pointer (some ⟨q, 2, none⟩)
  | 5 => t = .int .i64 mf
  | 6 => t = .string (bs (Lib.itoa mf))
  | 7 => t = .pointer (some ⟨q, 3, none⟩)
  | 8 => t = .int .i64 mh
  | 9 => t = .string (bs (Lib.itoa mh))
  | 10 => ∃ g, t = .slice (some ⟨g, 0, none⟩) 3 3 ∧ B ≤ g ∧ W.heap[g]? = some (.cells #[.string (bs (Lib.itoa mcl)), .string (bs (Lib.itoa mf)), .string (bs (Lib.itoa mh))] 9)
  | 11 => t = .pointer (some ⟨q, 4, none⟩)
  | 12 => t = .slice sa sn sc
  | _ => False

def MCa9 (X : World) (C b : Nat) (T L : List UInt8) (sa : Option Addr) (sn sc : Nat) (s1 s2 s3 : ByteArray) (j : Nat) (u : Nat → Value) (W : World) : Prop :=
  match j with
  | 0 => Below X.heap.size X W ∧ u 30 = .pointer (some ⟨C, 0, none⟩) ∧ u 42 = .slice sa sn sc ∧ ∃ g, u 40 = .slice (some ⟨g, 0, none⟩) 3 3 ∧ X.heap.size ≤ g ∧ W.heap[g]? = some (.cells #[.string s1, .string s2, .string s3] 9)
  | 1 => Below X.heap.size X W ∧ u 43 = .string (bs T)
  | _ => Below b X W ∧ BuC b (L ++ T) W

set_option maxHeartbeats 32000000 in
theorem implCanon {w : World} {o r m : Value} {ms : List MO} {G : Gr} (h : GraphAt w o r m ms G) (hs : gSize ms G ≤ 1048576) (ht : TabC w) :
    Calls Tryz.prog 6 #[gv o r m G.next G.seed] w fun e w' => e = .returned (.string (canA G)) ∧ Below w.heap.size w w' := by
  obtain ⟨a1, n1, c1, a2, n2, c2, a3, n3, c3, e1, e2, e3⟩ := graphAt_slices h
  subst e1 e2 e3
  have BP : Below w.heap.size w (w.alloc (gb (.slice a1 n1 c1) (.slice a2 n2 c2) (.slice a3 n3 c3) G.next G.seed)) := (Below.refl _ _).alloc (Nat.le_refl _) _
  have QP := heap_alloc_new w (gb (.slice a1 n1 c1) (.slice a2 n2 c2) (.slice a3 n3 c3) G.next G.seed)
  have GK := implGraphOk (graphAt_below h BP) hs
  obtain ⟨R, hR⟩ : ∃ R, canA G = R := ⟨_, rfl⟩
  rw [hR]
  have HR : Hid _ := hR
  have T0 : Five (w.alloc (gb (.slice a1 n1 c1) (.slice a2 n2 c2) (.slice a3 n3 c3) G.next G.seed)) w.heap.size 27 (.slice a1 n1 c1) (.slice a2 n2 c2) (.slice a3 n3 c3) (.int .i64 G.next) (.int .i64 G.seed) := QP
  obtain ⟨z0, z1, z2, z3, z4, _⟩ := five_cells T0
  have HT0 : Hid _ := T0
  have HBP : Hid _ := BP
  have HH : Hid _ := h
  have HTB : Hid _ := ht
  clear BP QP h hs ht hR T0
  cases dr : gOk G
  · rw [dr] at GK
    have HE : Hid (R = ⟨#[]⟩) := by show _ = _; rw [← HR.out]; unfold canA; rw [if_neg (by rw [dr]; decide)]
    clear dr
    go_enter Tryz.func6, Tryz.ntmps6
    go_wp2_with (go_at_call 22; refine GK.mono ?_; clear GK; rintro e w2 ⟨rfl, b2⟩; have HBE : Hid _ := HBP.out.trans (b2.mono HBP.out.size); clear b2)
    go_ret
    exact ⟨by rw [HE.out]; rfl, HBE.out⟩
  · rw [dr] at GK
    have hok := right_of dr
    have HE : Hid (R = bs (canT G)) := by show _ = _; rw [← HR.out]; unfold canA; rw [if_pos dr]
    have HOK : Hid _ := hok
    clear dr hok
    go_enter Tryz.func6, Tryz.ntmps6
    go_upto_region 3 with (go_at_call 22; refine GK.mono ?_; clear GK z0 z1 z2 z3 z4; rintro e w2 ⟨rfl, b2⟩; have HB2 : Hid _ := HBP.out.trans (b2.mono HBP.out.size); have HT2 : Hid _ := five_below HT0.out b2; clear b2 HBP HT0)
    obtain ⟨z0, z1, z2, z3, z4, _⟩ := five_cells HT2.out
    have ME := met_any (graphAt_below HH.out HB2.out) HOK.out
    go_wp2_with fail
    refine ME.mono ?_
    clear ME
    rintro e w3 ⟨C, mb, base, vm, rfl, hMt⟩
    have bM : Below w2.heap.size w2 w3 := ((Below.refl w2.heap.size w2).alloc (Nat.le_refl _) (gb (.slice a1 n1 c1) (.slice a2 n2 c2) (.slice a3 n3 c3) G.next G.seed)).trans (hMt.low.mono (by simp))
    have HB3 : Hid _ := HB2.out.trans (bM.mono HB2.out.size)
    have HT3 : Hid _ := five_below HT2.out bM
    have HMt : Hid _ := hMt
    clear hMt bM z0 z1 z2 z3 z4
    go_upto_region 5 with fail
    have b1 : Below w3.heap.size w3 (w3.alloc (.cells #[.pointer none, .slice none 0 0] 52)) := (Below.refl _ _).alloc (Nat.le_refl _) _
    have q1 := heap_alloc_new w3 (.cells #[.pointer none, .slice none 0 0] 52)
    have s1 : w3.heap.size < (w3.alloc (.cells #[.pointer none, .slice none 0 0] 52)).heap.size := by simp
    have HBu1 : Hid (BuC w3.heap.size [] (w3.alloc (.cells #[.pointer none, .slice none 0 0] 52))) := .inl ⟨Nat.le_refl _, _, q1, ⟨rfl, .inl ⟨rfl, rfl⟩⟩, by simp [Value.ownBlock]⟩
    generalize w3.alloc (.cells #[.pointer none, .slice none 0 0] 52) = X1 at *
    have HB1 : Hid _ := b1
    have HS1 : Hid _ := s1
    obtain ⟨b, hb⟩ : ∃ b, w3.heap.size = b := ⟨_, rfl⟩
    have HBE : Hid _ := hb
    obtain ⟨_, z1, z2, _, _, _⟩ := five_cells (five_below HT3.out b1)
    have b2 : Below X1.heap.size X1 (X1.alloc (.cells #[.slice a2 n2 c2, .slice a3 n3 c3] 25)) := (Below.refl _ _).alloc (Nat.le_refl _) _
    have q2 := heap_alloc_new X1 (.cells #[.slice a2 n2 c2, .slice a3 n3 c3] 25)
    have hbw : w.heap.size ≤ w3.heap.size := HB3.out.size
    have BX2 : Below w.heap.size w (X1.alloc (.cells #[.slice a2 n2 c2, .slice a3 n3 c3] 25)) := (HB3.out.trans (b1.mono hbw)).trans (b2.mono (Nat.le_trans hbw (Nat.le_of_lt s1)))
    have LS : ListsR (X1.alloc (.cells #[.slice a2 n2 c2, .slice a3 n3 c3] 25)) (.slice (some ⟨X1.heap.size, 0, none⟩) 2 2) [G.roots, G.mourned] := by
      refine ⟨X1.heap.size, 2, rfl, lt_of_block q2, fun i hi => ?_⟩
      rcases (show i = 0 ∨ i = 1 by simp at hi; omega) with rfl | rfl
      · exact ⟨.slice a2 n2 c2, by unfold World.cell?; rw [q2]; rfl, refsAt_below HH.out.2.2.1 BX2⟩
      · exact ⟨.slice a3 n3 c3, by unfold World.cell?; rw [q2]; rfl, refsAt_below HH.out.2.2.2 BX2⟩
    have hgl := gOk_len HOK.out.gOk
    have CC := concatR_any LS (by simp) (by simp; omega)
    have efl : ([G.roots, G.mourned] : List (List Rf)).flatten = G.roots ++ G.mourned := by simp
    rw [efl] at CC
    have HBX2 : Hid _ := b2
    clear b1 q1 s1 LS q2 b2 BX2 hgl efl hbw hb
    go_wp2_with fail
    refine CC.mono ?_
    clear CC
    rintro e w4 ⟨v4, rfl, O4, b4⟩
    obtain ⟨la, ln, lc, el⟩ := refs_slice (ownR_refs O4)
    subst el
    have B4 : Below w3.heap.size w3 w4 := HB1.out.trans ((HBX2.out.trans (b4.mono HBX2.out.size)).mono (Nat.le_of_lt HS1.out))
    have HBu4 : Hid (BuC w3.heap.size [] w4) := buC_below HBu1.out (HBX2.out.trans (b4.mono HBX2.out.size))
    have hgl := gOk_len HOK.out.gOk
    have LI := line_any (HMt.out.below B4) (tabC_below HTB.out (HB3.out.trans (B4.mono HB3.out.size))) (Below.refl _ _) (own_nilT w4 _) (ownR_refs O4) HOK.out.refs (by rw [List.length_append]; simp; omega) (fun a ha => by cases ha) (by have := HOK.out.ord_len; omega)
    rw [List.nil_append] at LI
    have HB4 : Hid _ := B4
    clear O4 b4 B4 HBu1 HBX2 hgl
    go_wp2_with fail
    refine LI.mono ?_
    clear LI
    rintro e w5 ⟨rfl, b5⟩
    have B5 : Below w3.heap.size w3 w5 := HB4.out.trans (b5.mono HB4.out.size)
    have hl0 := HOK.out.line0_len
    have WS := wstr_any (s := lineT ((G.roots ++ G.mourned).map (wordT (ordG G)))) (buC_below HBu4.out b5) (by simp only [List.length_nil]; omega) B5.size
    rw [List.nil_append] at WS
    have HC0 : Hid (lineT ((G.roots ++ G.mourned).map (wordT (ordG G))) = canK G 0) := by show _ = _; unfold canK; simp
    rw [HC0.out] at WS
    have HB5 : Hid _ := B5
    rw [HC0.out]
    clear b5 B5 HBu4 HB4 hl0 HC0
    go_wp2_with fail
    refine WS.mono ?_
    clear WS
    rintro e w6 ⟨rfl, hBu6, b6⟩
    have HB6 : Hid _ := HB5.out.trans b6
    have HBu6 : Hid _ := hBu6
    clear b6 hBu6 HB5
    obtain ⟨⟨_, _, y2⟩, _⟩ := mtb_cells (HMt.out.below HB6.out).blk'
    obtain ⟨ma, mc, emv, _, _, _, hcc⟩ := ownRow_at HMt.out.own
    rw [metL_length] at emv hcc
    obtain ⟨n, hn⟩ : ∃ n, (ordG G).length = n := ⟨_, rfl⟩
    have HN : Hid _ := hn
    have hn200 : n ≤ 200 := by rw [← hn]; exact HOK.out.ord_len
    rw [hn] at emv hcc
    clear hn
    subst emv
    have HCC : Hid _ := hcc
    clear hcc
    go_wp2_with fail
    go_loopw [6, 26] (fun v6 v26 wr => ∃ k : Nat, v26 = .int .i64 (k : Int) ∧ k ≤ n ∧ Hid (Below w3.heap.size w3 wr) ∧ Hid (BuC w3.heap.size (canK G k) wr)) (fun _ v26 _ => n - (intOf v26).toNat)
    case atStart => exact ⟨0, rfl, Nat.zero_le _, HB6, HBu6⟩
    case round =>
      obtain ⟨k, rfl, hk, HB, HBU⟩ := hrel
      by_cases hlt : k < n
      · obtain ⟨gb', go', eg, hgb, hgc⟩ := HCC.out (by omega)
        subst eg
        have hkl : k < (ordG G).length := by have := HN.out; omega
        have hin : (ordG G).getD k 0 ∈ ordG G := by rw [List.getD_eq_getElem?_getD, List.getElem?_eq_getElem hkl]; exact List.getElem_mem _
        have hcell := hgc k hlt
        rw [metL_at hkl] at hcell
        have hnx := canK_next hkl
        have hT : objT G.objs (ordG G) ((ordG G).getD k 0) = objT G.objs (ordG G) ((ordG G).getD k 0) := rfl
        obtain ⟨x, hx⟩ : ∃ x, (ordG G).getD k 0 = x := ⟨_, rfl⟩
        rw [hx] at hin hcell hnx
        have hat := (ordG_facts HOK.out).1.2 x hin
        have hsm := HOK.out.ob_small (atI_is hat).1
        have hro := HOK.out.refsO hin
        have hpl : (atI G.objs x).toNat < ms.length := by
          have := (atI_is hat).1
          have e : ms.length = G.objs.length := by rw [← HH.out.1, List.length_map]
          omega
        have hov := HH.out.2.1.2 _ (mem_getD hpl)
        have habs : G.objs.getD (atI G.objs x).toNat obD = (ms.getD (atI G.objs x).toNat moD).abs := by rw [← HH.out.1, abs_getD, HH.out.1]
        have hol : (objT G.objs (ordG G) x).length ≤ 3000 := HOK.out.objT_len hin
        have hTT : objT G.objs (ordG G) x = lineT ([Lib.itoa (ms.getD (atI G.objs x).toNat moD).cls, Lib.itoa (ms.getD (atI G.objs x).toNat moD).fmt, Lib.itoa (ms.getD (atI G.objs x).toNat moD).hash] ++ (ms.getD (atI G.objs x).toNat moD).slots.map (wordT (ordG G))) := by
          unfold objT slotsI
          rw [habs]
          rfl
        have hsx : slotsI G.objs x = (ms.getD (atI G.objs x).toNat moD).slots := by unfold slotsI; rw [habs]; rfl
        rw [habs] at hsm
        rw [hsx] at hro
        obtain ⟨T, hTe⟩ : ∃ T, objT G.objs (ordG G) x = T := ⟨_, rfl⟩
        rw [hTe] at hTT hnx hol
        generalize ms.getD (atI G.objs x).toNat moD = mo at *
        obtain ⟨mi, mcl, mf, mh, msv, msl⟩ := mo
        obtain ⟨sa, sn, sc, esv⟩ := refs_slice hov
        simp only at esv hov hTT hro hcell
        subst esv
        have hsm' : I64 mcl ∧ I64 mf ∧ I64 mh ∧ msl.length ≤ 20 := hsm
        have HN1 : Hid (I64 mcl) := hsm'.1
        have HN2 : Hid (I64 mf) := hsm'.2.1
        have HN3 : Hid (I64 mh) := hsm'.2.2.1
        have HML : Hid _ := hsm'.2.2.2
        obtain ⟨c0, c1', c2', c3', c4⟩ := hcell
        have c0 := (HB.out.cell (p := ⟨gb', go' + k * 5, none⟩) hgb).trans c0
        have c1' := (HB.out.cell (p := ⟨gb', go' + k * 5 + 1, none⟩) hgb).trans c1'
        have c2' := (HB.out.cell (p := ⟨gb', go' + k * 5 + 2, none⟩) hgb).trans c2'
        have c3' := (HB.out.cell (p := ⟨gb', go' + k * 5 + 3, none⟩) hgb).trans c3'
        have c4 := (HB.out.cell (p := ⟨gb', go' + k * 5 + 4, none⟩) hgb).trans c4
        have HTT : Hid _ := hTT
        have HNX : Hid _ := hnx
        have HRO : Hid _ := hro
        have HOV : Hid _ := hov
        have HOL : Hid _ := hol
        have hk2 : (k : Int) < (n : Int) := by omega
        have BX : Below wr.heap.size wr (wr.alloc (ob ⟨mi, mcl, mf, mh, .slice sa sn sc, msl⟩)) := (Below.refl _ _).alloc (Nat.le_refl _) _
        have HQ : Hid ((wr.alloc (ob ⟨mi, mcl, mf, mh, .slice sa sn sc, msl⟩)).heap[wr.heap.size]? = some (ob ⟨mi, mcl, mf, mh, .slice sa sn sc, msl⟩)) := heap_alloc_new _ _
        have HBX0 : Hid _ := BX
        clear hkl hin hgc hnx hT hx hat hsm hro hpl hov habs hol hTT hsx hTe hsm' hgb BX
        go_upto_region 9 with fail
        generalize wr.alloc (ob ⟨mi, mcl, mf, mh, .slice sa sn sc, msl⟩) = X at *
        have HB3X : Hid (Below w3.heap.size w3 X) := HB.out.trans (HBX0.out.mono HB.out.size)
        have HBX : Hid (w3.heap.size ≤ X.heap.size) := HB3X.out.size
        have HDE : Hid (∀ n, I64 n → ∀ W, Below X.heap.size X W → Calls Tryz.prog 27 #[.int .i64 n] W fun e w' => e = .returned (.string (bs (Lib.itoa n))) ∧ Below W.heap.size W w') := fun n hn W hW => decimal_any n hn W (tabC_below HTB.out ((HB3.out.trans (HB3X.out.mono HB3.out.size)).trans (hW.mono (Nat.le_trans HB3.out.size HBX.out))))
        have HLI : Hid (∀ W g, Below X.heap.size X W → X.heap.size ≤ g → W.heap[g]? = some (.cells #[.string (bs (Lib.itoa mcl)), .string (bs (Lib.itoa mf)), .string (bs (Lib.itoa mh))] 9) → Calls Tryz.prog 25 #[.pointer (some ⟨C, 0, none⟩), .slice (some ⟨g, 0, none⟩) 3 3, .slice sa sn sc] W fun e w' => e = .returned (.string (bs T)) ∧ Below X.heap.size X w') := fun W g hW hg hgb => by
          have LI := line_any (HMt.out.below HB3X.out) (tabC_below HTB.out (HB3.out.trans (HB3X.out.mono HB3.out.size))) hW (wv := .slice (some ⟨g, 0, none⟩) 3 3) (ws := [Lib.itoa mcl, Lib.itoa mf, Lib.itoa mh]) ⟨rfl, .inr ⟨g, 3, _, rfl, hg, hgb, Nat.le_refl _, by decide, rfl, rfl⟩⟩ (refsAt_below HOV.out (HB3.out.trans (HB3X.out.mono HB3.out.size))) HRO.out (by have := HML.out; simp only [List.length_cons, List.length_nil]; omega) (fun a ha => by
            simp only [List.mem_cons, List.not_mem_nil, or_false] at ha
            rcases ha with rfl | rfl | rfl
            · exact itoa_22 HN1.out
            · exact itoa_22 HN2.out
            · exact itoa_22 HN3.out) (by have := HOK.out.ord_len; omega)
          rw [← HTT.out] at LI
          exact LI
        have HWS : Hid (∀ W, Below X.heap.size X W → Calls Tryz.prog 24 #[.pointer (some ⟨w3.heap.size, 0, none⟩), .string (bs T)] W fun e w' => e = .returned (.tuple #[.int .i64 ((bs T).size : Int), .nilIface]) ∧ BuC w3.heap.size (canK G k ++ T) w' ∧ Below w3.heap.size W w') := fun W hW => wstr_any (buC_below (buC_below HBU.out HBX0.out) hW) (by have := canK_len HOK.out k; have := HOL.out; omega) (Nat.le_trans HBX.out hW.size)
        have hmsz : (bs T).size = (bs T).size := rfl
        clear c0 c1' c2' c3' c4 y2 hmsz
        generalize hA0 : (Act.mk _ []) = A0
        have e3 : A0.tmps.getD 3 undef = .pointer (some ⟨C, 0, none⟩) := by rw [← hA0]; rfl
        have e4 : A0.tmps.getD 4 undef = .pointer (some ⟨w3.heap.size, 0, none⟩) := by rw [← hA0]; rfl
        have e6 : A0.tmps.getD 6 undef = .pointer (some ⟨wr.heap.size, 0, none⟩) := by rw [← hA0]; rfl
        have sz : A0.tmps.size = 47 := by rw [← hA0]; rfl
        refine wp_region_tail (by kernel_rfl) DCa9 (by simp) ?_ 13 2 (by decide) rfl dCa9 dCa9_inj (FCa9 C wr.heap.size X.heap.size mcl mf mh sa sn sc) ?_ ?_ ?_ ?_ (MCa9 X C w3.heap.size T (canK G k) sa sn sc (bs (Lib.itoa mcl)) (bs (Lib.itoa mf)) (bs (Lib.itoa mh))) (fun u W hB hF => ⟨hB, hF 0 (by decide), hF 12 (by decide), hF 10 (by decide)⟩) ?_ ?_
        · intro k o ho
          have hk : k < 15 := (Array.getElem?_eq_some_iff.1 ho).1
          rcases (show k = 0 ∨ k = 1 ∨ k = 2 ∨ k = 3 ∨ k = 4 ∨ k = 5 ∨ k = 6 ∨ k = 7 ∨ k = 8 ∨ k = 9 ∨ k = 10 ∨ k = 11 ∨ k = 12 ∨ k = 13 ∨ k = 14 by omega) with rfl | rfl | rfl | rfl | rfl | rfl | rfl | rfl | rfl | rfl | rfl | rfl | rfl | rfl | rfl <;> (obtain rfl := Option.some.inj ho; simp)
        · intro k t W W' hb h
          match k, h with
          | 0, h => exact h
          | 1, h => exact h
          | 2, h => exact h
          | 3, h => exact h
          | 4, h => exact h
          | 5, h => exact h
          | 6, h => exact h
          | 7, h => exact h
          | 8, h => exact h
          | 9, h => exact h
          | 10, h => exact by obtain ⟨g, e1, e2, e3⟩ := h; exact ⟨g, e1, e2, (hb.block g (lt_of_block e3)).trans e3⟩
          | 11, h => exact h
          | 12, h => exact h
          | _ + 13, h => exact h.elim
        · intro l hC kk hkk
          have l0 : l 0 = true := hC 13 _ rfl (fun h => by omega) (Nat.le_refl _) ⟨0, .data⟩ (by simp) (by simp [Region.binds])
          have l10 : l 10 = true := hC 13 _ rfl (fun h => by omega) (Nat.le_refl _) ⟨10, .data⟩ (by simp) (by simp [Region.binds])
          have l12 : l 12 = true := hC 13 _ rfl (fun h => by omega) (Nat.le_refl _) ⟨12, .data⟩ (by simp) (by simp [Region.binds])
          have l3 : l 3 = true := hC 10 _ rfl (fun _ => l10) (by decide) ⟨3, .data⟩ (by simp) (by simp [Region.binds])
          have l6 : l 6 = true := hC 10 _ rfl (fun _ => l10) (by decide) ⟨6, .data⟩ (by simp) (by simp [Region.binds])
          have l9 : l 9 = true := hC 10 _ rfl (fun _ => l10) (by decide) ⟨9, .data⟩ (by simp) (by simp [Region.binds])
          have l2 : l 2 = true := hC 3 _ rfl (fun _ => l3) (by decide) ⟨2, .data⟩ (by simp) (by simp [Region.binds])
          have l1 : l 1 = true := hC 2 _ rfl (fun _ => l2) (by decide) ⟨1, .data⟩ (by simp) (by simp [Region.binds])
          have l5 : l 5 = true := hC 6 _ rfl (fun _ => l6) (by decide) ⟨5, .data⟩ (by simp) (by simp [Region.binds])
          have l4 : l 4 = true := hC 5 _ rfl (fun _ => l5) (by decide) ⟨4, .data⟩ (by simp) (by simp [Region.binds])
          have l8 : l 8 = true := hC 9 _ rfl (fun _ => l9) (by decide) ⟨8, .data⟩ (by simp) (by simp [Region.binds])
          have l7 : l 7 = true := hC 8 _ rfl (fun _ => l8) (by decide) ⟨7, .data⟩ (by simp) (by simp [Region.binds])
          have l11 : l 11 = true := hC 12 _ rfl (fun _ => l12) (by decide) ⟨11, .data⟩ (by simp) (by simp [Region.binds])
          rcases (show kk = 0 ∨ kk = 1 ∨ kk = 2 ∨ kk = 3 ∨ kk = 4 ∨ kk = 5 ∨ kk = 6 ∨ kk = 7 ∨ kk = 8 ∨ kk = 9 ∨ kk = 10 ∨ kk = 11 ∨ kk = 12 by omega) with rfl | rfl | rfl | rfl | rfl | rfl | rfl | rfl | rfl | rfl | rfl | rfl | rfl
          · exact l0
          · exact l1
          · exact l2
          · exact l3
          · exact l4
          · exact l5
          · exact l6
          · exact l7
          · exact l8
          · exact l9
          · exact l10
          · exact l11
          · exact l12
        · intro j hj o ho
          rcases (show j = 0 by omega) with rfl
          · obtain rfl := Option.some.inj ho
            exact ⟨⟨13, .data⟩, by simp, rfl, by simp [Region.binds]⟩
        · intro k o u W hk ho hB hU hF
          have ev : ∀ s, DCa9 s = true → s < 47 → (ovr DCa9 A0 u).tmps[s]?.getD undef = u s := fun s h1 h2 => (getD_at _ _).symm.trans (eval_in h1 (by omega))
          have o3 : (ovr DCa9 A0 u).tmps[3]?.getD undef = _ := (getD_at _ _).symm.trans ((eval_out (D := DCa9) (a0 := A0) (u := u) (s := 3) rfl (by omega)).trans e3)
          have o4 : (ovr DCa9 A0 u).tmps[4]?.getD undef = _ := (getD_at _ _).symm.trans ((eval_out (D := DCa9) (a0 := A0) (u := u) (s := 4) rfl (by omega)).trans e4)
          have o6 : (ovr DCa9 A0 u).tmps[6]?.getD undef = _ := (getD_at _ _).symm.trans ((eval_out (D := DCa9) (a0 := A0) (u := u) (s := 6) rfl (by omega)).trans e6)
          obtain ⟨y0, y1, y2, y3, y4⟩ := ob_cells ((hB.block _ (lt_of_block HQ.out)).trans HQ.out)
          rcases (show k = 0 ∨ k = 1 ∨ k = 2 ∨ k = 3 ∨ k = 4 ∨ k = 5 ∨ k = 6 ∨ k = 7 ∨ k = 8 ∨ k = 9 ∨ k = 10 ∨ k = 11 ∨ k = 12 by omega) with rfl | rfl | rfl | rfl | rfl | rfl | rfl | rfl | rfl | rfl | rfl | rfl | rfl
          all_goals obtain rfl := Option.some.inj ho
          · refine plainV (v := .pointer (some ⟨C, 0, none⟩)) rfl rfl ?_ rfl
            simp only [execOp]
            go_simp
            try go_num
            try (rw [IntKind.wrap_i64]; omega)
          · refine plainV (v := .pointer (some ⟨wr.heap.size, 1, none⟩)) rfl rfl ?_ rfl
            simp only [execOp]
            go_simp
            try go_num
            try (rw [IntKind.wrap_i64]; omega)
          · have x1 := (ev 31 rfl (by decide)).trans (hF 1 (by decide) (by simp [Region.binds]))
            refine plainV (v := .int .i64 mcl) rfl rfl ?_ rfl
            simp only [execOp]
            go_simp
            try go_num
            try (rw [IntKind.wrap_i64]; omega)
          · have x2 := (ev 32 rfl (by decide)).trans (hF 2 (by decide) (by simp [Region.binds]))
            refine plainC (f := 27) (args := #[.int .i64 mcl]) rfl rfl ?_ ((HDE.out mcl HN1.out W hB).mono ?_)
            · simp only [execOp]
              go_simp
            · rintro e w' ⟨rfl, hb⟩
              exact ⟨_, rfl, hb, rfl⟩
          · refine plainV (v := .pointer (some ⟨wr.heap.size, 2, none⟩)) rfl rfl ?_ rfl
            simp only [execOp]
            go_simp
            try go_num
            try (rw [IntKind.wrap_i64]; omega)
          · have x4 := (ev 34 rfl (by decide)).trans (hF 4 (by decide) (by simp [Region.binds]))
            refine plainV (v := .int .i64 mf) rfl rfl ?_ rfl
            simp only [execOp]
            go_simp
            try go_num
            try (rw [IntKind.wrap_i64]; omega)
          · have x5 := (ev 35 rfl (by decide)).trans (hF 5 (by decide) (by simp [Region.binds]))
            refine plainC (f := 27) (args := #[.int .i64 mf]) rfl rfl ?_ ((HDE.out mf HN2.out W hB).mono ?_)
            · simp only [execOp]
              go_simp
            · rintro e w' ⟨rfl, hb⟩
              exact ⟨_, rfl, hb, rfl⟩
          · refine plainV (v := .pointer (some ⟨wr.heap.size, 3, none⟩)) rfl rfl ?_ rfl
            simp only [execOp]
            go_simp
            try go_num
            try (rw [IntKind.wrap_i64]; omega)
          · have x7 := (ev 37 rfl (by decide)).trans (hF 7 (by decide) (by simp [Region.binds]))
            refine plainV (v := .int .i64 mh) rfl rfl ?_ rfl
            simp only [execOp]
            go_simp
            try go_num
            try (rw [IntKind.wrap_i64]; omega)
          · have x8 := (ev 38 rfl (by decide)).trans (hF 8 (by decide) (by simp [Region.binds]))
            refine plainC (f := 27) (args := #[.int .i64 mh]) rfl rfl ?_ ((HDE.out mh HN3.out W hB).mono ?_)
            · simp only [execOp]
              go_simp
            · rintro e w' ⟨rfl, hb⟩
              exact ⟨_, rfl, hb, rfl⟩
          · have x3 := (ev 33 rfl (by decide)).trans (hF 3 (by decide) (by simp [Region.binds]))
            have x6 := (ev 36 rfl (by decide)).trans (hF 6 (by decide) (by simp [Region.binds]))
            have x9 := (ev 39 rfl (by decide)).trans (hF 9 (by decide) (by simp [Region.binds]))
            refine plainB (v := .slice (some ⟨W.heap.size, 0, none⟩) 3 3) (W' := W.alloc (.cells #[.string (bs (Lib.itoa mcl)), .string (bs (Lib.itoa mf)), .string (bs (Lib.itoa mh))] 9)) rfl rfl ?_ ((Below.refl _ _).alloc (Nat.le_refl _) _) ⟨W.heap.size, rfl, hB.size, heap_alloc_new _ _⟩
            simp only [execOp]
            go_simp
          · refine plainV (v := .pointer (some ⟨wr.heap.size, 4, none⟩)) rfl rfl ?_ rfl
            simp only [execOp]
            go_simp
            try go_num
            try (rw [IntKind.wrap_i64]; omega)
          · have x11 := (ev 41 rfl (by decide)).trans (hF 11 (by decide) (by simp [Region.binds]))
            refine plainV (v := .slice sa sn sc) rfl rfl ?_ rfl
            simp only [execOp]
            go_simp
            try go_num
            try (rw [IntKind.wrap_i64]; omega)
        · intro j o u W hj ho hM
          have ev : ∀ s, DCa9 s = true → s < 47 → (ovr DCa9 A0 u).tmps[s]?.getD undef = u s := fun s h1 h2 => (getD_at _ _).symm.trans (eval_in h1 (by omega))
          have o3 : (ovr DCa9 A0 u).tmps[3]?.getD undef = _ := (getD_at _ _).symm.trans ((eval_out (D := DCa9) (a0 := A0) (u := u) (s := 3) rfl (by omega)).trans e3)
          have o4 : (ovr DCa9 A0 u).tmps[4]?.getD undef = _ := (getD_at _ _).symm.trans ((eval_out (D := DCa9) (a0 := A0) (u := u) (s := 4) rfl (by omega)).trans e4)
          have o6 : (ovr DCa9 A0 u).tmps[6]?.getD undef = _ := (getD_at _ _).symm.trans ((eval_out (D := DCa9) (a0 := A0) (u := u) (s := 6) rfl (by omega)).trans e6)
          rcases (show j = 0 ∨ j = 1 by omega) with rfl | rfl
          all_goals obtain rfl := Option.some.inj ho
          · obtain ⟨hB, f30, f42, g, f40, hg, hgb⟩ := hM
            have x30 := (ev 30 rfl (by decide)).trans f30
            have x42 := (ev 42 rfl (by decide)).trans f42
            have x40 := (ev 40 rfl (by decide)).trans f40
            refine tailC (f := 25) (args := #[.pointer (some ⟨C, 0, none⟩), .slice (some ⟨g, 0, none⟩) 3 3, .slice sa sn sc]) rfl rfl ?_ ((HLI.out W g hB hg hgb).mono ?_)
            · simp only [execOp]
              go_simp
            · rintro e w' ⟨rfl, hb⟩
              exact ⟨_, rfl, hb, rfl⟩
          · obtain ⟨hB, f43⟩ := hM
            have x43 := (ev 43 rfl (by decide)).trans f43
            refine tailC (f := 24) (args := #[.pointer (some ⟨w3.heap.size, 0, none⟩), .string (bs T)]) rfl rfl ?_ ((HWS.out W hB).mono ?_)
            · simp only [execOp]
              go_simp
            · rintro e w' ⟨rfl, h1, h2⟩
              exact ⟨_, rfl, (hB.mono HBX.out).trans h2, h1⟩
        · intro u W hM
          obtain ⟨hB, hBU⟩ := hM
          subst hA0
          simp [ovr, DCa9, List.range, List.range.loop]
          have HW : Hid (Below w3.heap.size w3 W) := HB3X.out.trans hB
          have HBN : Hid (BuC w3.heap.size (canK G (k + 1)) W) := by rw [HNX.out]; exact hBU
          clear hB hBU
          go_wp2
          exact ⟨⟨k + 1, by go_num, by omega, HW, HBN⟩, by simp [intOf]; omega⟩
      · have hk2 : ¬ (k : Int) < (n : Int) := by omega
        have e : k = n := by omega
        have HF : Hid (BuC w3.heap.size (canT G) wr) := by
          show BuC _ _ _
          rw [← canK_end, HN.out, ← e]
          exact HBU
        have SB := bstr_lib w3.heap.size w3.heap.size (canT G) wr HF.out HB.out.size
        have eR : (⟨(canT G).toArray⟩ : ByteArray) = R := HE.out.symm
        rw [eR] at SB
        clear e eR hk
        go_wp2_with (go_at_call 28; refine SB.mono ?_; clear SB; rintro e w7 ⟨rfl, b7⟩)
        go_ret
        exact ⟨rfl, HB3.out.trans ((HB.out.trans b7).mono HB3.out.size)⟩
end Go.Proofs.YtcboojhabolcbaaGreatDoor.gr
