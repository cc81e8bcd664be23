/-
  Chapter 13 as the program has it: the memory while it is marked. Chapter 12 as the specification has it: a slot there is, and what stands in it, followed. Chapter 12 as lists: a slot stored, and what is seen then. Chapter 12 as the specification has it: Stored.
-/
import Derived.Test.YtacilbilnbmcbaaGreatDoorM18
import Derived.Test.YtacilbilnbmcbaaGreatDoorM20
import Derived.Test.YtacilbilnbmcbaaGreatDoorM12
import Derived.Test.YtacilbilnbmcbaaGreatDoorM19
namespace Go.Proofs.YtacilbilnbmcbaaGreatDoor.hp
open Go.RowKit rows heads words walks Go.Maps
set_option maxRecDepth 100000
set_option linter.unusedVariables false
set_option linter.unusedSimpArgs false

/-- The block of what marks: the rooms, the set, the map of who waits. -/
abbrev mkb (up : Int) (v vm : Value) (mb : Nat) : Obj := .cells #[.int .i64 up, v, vm, .map (some mb)] 107
theorem mkb_cells {W : World} {b : Nat} {up : Int} {v vm : Value} {mb : Nat} (h : W.heap[b]? = some (mkb up v vm mb)) : (W.cell? ⟨b, 0, none⟩ = some (.int .i64 up) ∧ W.cell? ⟨b, 1, none⟩ = some v ∧ W.cell? ⟨b, 2, none⟩ = some vm ∧ W.cell? ⟨b, 3, none⟩ = some (.map (some mb))) ∧ ∀ k, W.frozen? ⟨b, k, none⟩ = false := by
  refine ⟨⟨?_, ?_, ?_, ?_⟩, fun k => ?_⟩ <;> simp [World.cell?, World.frozen?, h]
theorem mkb_set {W : World} {b : Nat} {up : Int} {v vm : Value} {mb : Nat} (h : W.heap[b]? = some (mkb up v vm mb)) (u : Value) : (W.setCell ⟨b, 2, none⟩ u).heap[b]? = some (mkb up v u mb) := (cells_setCell h 2 u).trans (by simp)
theorem ends_in {xs : List Int} {x : Int} {i : Nat} (h : (decide (i < xs.length) && decide (xs.getD i 0 = x)) = true) : x ∈ xs := by
  rw [Bool.and_eq_true, decide_eq_true_eq, decide_eq_true_eq] at h
  rw [← h.2, List.getD_eq_getElem?_getD, List.getElem?_eq_getElem h.1]
  exact List.getElem_mem h.1
set_option maxHeartbeats 4000000 in
theorem hasM_any {w : World} {C o : Nat} {v : Value} {xs : List Int} (hc : w.cell? ⟨C, o, none⟩ = some v) (h : IntsAt w v xs) (hr : Rising xs) (hl : xs.length ≤ 1048576) (x : Int) :
    Calls Tryz.prog 32 #[.pointer (some ⟨C, o, none⟩), .int .i64 x] w fun e w' => e = .returned (.bool (decide (x ∈ xs))) ∧ w' = w := by
  have BS := binSearchI_any h hr hl x
  obtain ⟨a, n, c, rfl⟩ := ints_slice h
  have HR : Hid _ := hr
  clear h hr
  go_enter Tryz.func32, Tryz.ntmps32
  go_wp2_with fail
  refine BS.mono ?_
  clear BS
  rintro e w3 ⟨i, hE, rfl, hw3⟩
  rw [hw3]
  clear hw3 w3
  obtain ⟨bb, hbb⟩ : ∃ bb, (decide (i < xs.length) && decide (xs.getD i 0 = x)) = bb := ⟨_, rfl⟩
  rw [hbb]
  have HB : Hid (decide (x ∈ xs) = bb) := by
    show _ = _
    cases bb
    · exact decide_eq_false (ends_not HR.out hE hbb)
    · exact decide_eq_true (ends_in hbb)
  clear hbb hE
  go_wp2_with fail
  go_ret
  exact ⟨by rw [HB.out]; rfl, rfl⟩
set_option maxHeartbeats 4000000 in
theorem addM_any {w : World} {base C : Nat} {up : Int} {v vm : Value} {mb : Nat} {xs : List Int} (hbs : base ≤ w.heap.size) (hP : w.heap[C]? = some (mkb up v vm mb)) (O : rows.Own w base vm xs) (hC : C ∉ blk vm) (hr : Rising xs) (hl : xs.length ≤ 1000) (x : Int) :
    Calls Tryz.prog 129 #[.pointer (some ⟨C, 2, none⟩), .int .i64 x] w fun e w' => e = .returned (.tuple #[]) ∧ ∃ v', w'.heap[C]? = some (mkb up v v' mb) ∧ rows.Own w' base v' (putI x xs) ∧ Ch (C :: blk vm) w w' ∧ ∀ k ∈ blk v', k ∈ blk vm ∨ w.heap.size ≤ k := by
  have BS := binSearchI_any (own_ints O) hr (by omega) x
  obtain ⟨⟨_, _, z0, _⟩, _⟩ := mkb_cells hP
  obtain ⟨a, c, hvm⟩ : ∃ a c, vm = .slice a xs.length c := by
    obtain ⟨a, c, e, _⟩ := own_ints O
    exact ⟨a, c, e⟩
  subst hvm
  have HP : Hid _ := hP
  have HO : Hid _ := O
  have HR : Hid _ := hr
  have HC : Hid _ := hC
  clear hP O hr hC
  go_enter Tryz.func129, Tryz.ntmps129
  go_wp2_with fail
  refine BS.mono ?_
  clear BS
  rintro e w3 ⟨i, hE, rfl, hw3⟩
  rw [hw3]
  clear hw3 w3
  obtain ⟨bb, hbb⟩ : ∃ bb, (decide (i < xs.length) && decide (xs.getD i 0 = x)) = bb := ⟨_, rfl⟩
  rw [hbb]
  cases bb
  · have hnx := ends_not HR.out hE hbb
    have hne : ∀ t, t < xs.length → xs.getD t 0 ≠ x := fun t ht e => hnx (by rw [← e, List.getD_eq_getElem?_getD, List.getElem?_eq_getElem ht]; exact List.getElem_mem ht)
    have HN : Hid (putI x xs = xs.take i ++ [x] ++ xs.drop i) := put_at hE.1 hE.2.1 (fun t h1 h2 => by have := hE.2.2 t h1 h2; have := hne t h2; omega)
    have hi := hE.1
    have B1 : Below w.heap.size w (w.alloc (.cells #[.int .i64 x] 2)) := (Below.refl _ _).alloc (Nat.le_refl _) _
    have HW : (w.alloc (.cells #[.int .i64 x] 2)).heap[w.heap.size]? = some (.cells #[.int .i64 x] 2 (0, 0)) := heap_alloc_new w _
    have hvb : w.heap.size ∉ blk (Value.slice a xs.length c) := fun hk => Nat.lt_irrefl _ (blk_lt HO.out _ hk).2
    have DE := insertG_any (base := base) (Nat.le_trans hbs B1.size) (own_below HO.out B1) HW hvb hi hl
    have hp1 := mkb_cells ((B1.block C (lt_of_block HP.out)).trans HP.out)
    have z1 := hp1.1.2.2.1
    have HB1 : Hid _ := B1
    have hi' : (i : Int) ≤ (xs.length : Int) := by omega
    clear hbb hE hne hnx HW B1 hp1 hvb
    go_wp2_with fail
    generalize w.alloc (.cells #[.int .i64 x] 2) = X at *
    refine DE.mono ?_
    clear DE
    rintro e w4 ⟨v4, rfl, O4, C4, K4⟩
    obtain ⟨va, vn, vc, rfl⟩ := ints_slice (own_ints O4)
    have q4 := (C4.block C (Nat.lt_of_lt_of_le (lt_of_block HP.out) HB1.out.size) HC.out).trans ((HB1.out.block C (lt_of_block HP.out)).trans HP.out)
    obtain ⟨⟨_, _, y0, _⟩, f0⟩ := mkb_cells q4
    have f2 := f0 2
    have HQ4 : Hid _ := q4
    have HO4 : Hid _ := O4
    have HC4 : Hid _ := C4
    have HK4 : Hid _ := K4
    clear q4 O4 C4 K4 z1 f0
    have nP : C ∉ blk (Value.slice va vn vc) := fun hk => by
      rcases HK4.out C hk with e | e
      · exact HC.out e
      · have := lt_of_block HP.out
        have := HB1.out.size
        omega
    go_wp2_with fail
    refine bodyPost_end (results_none rfl _ _ _) rfl ⟨rfl, _, mkb_set HQ4.out _, ?_, ?_, fun k hk => ?_⟩
    · rw [HN.out]
      exact row_ch (S := [C]) HO4.out (one_ch _ _ _ _) (fun k hk => by simp; rintro rfl; exact nP hk)
    · exact ((ch_below HB1.out).trans (HC4.out.mono (fun k hk => List.mem_cons_of_mem _ hk))).trans ((one_ch _ _ _ _).mono (fun k hk => by simp at hk; simp [hk]))
    · exact (HK4.out k hk).imp id (fun e => Nat.le_trans HB1.out.size e)
  · have HN : Hid (putI x xs = xs) := put_there HR.out (ends_in hbb)
    clear hbb hE
    go_wp2_with fail
    exact bodyPost_end (results_none rfl _ _ _) rfl ⟨rfl, _, HP.out, by rw [HN.out]; exact HO.out, Ch.refl _ _, fun k hk => .inl hk⟩

theorem map_same {w w' : World} {k : TypeId} {R : Value → Option (DataW Value × List MemPlace)} {b n : Nat} {D : DataW Value} (h : w.ownsMap Tryz.prog k R b n D) (hb : w'.heap[b]? = w.heap[b]?) : w'.ownsMap Tryz.prog k R b n D := by
  obtain ⟨es, clock, h1, h2⟩ := h
  exact ⟨es, clock, hb.trans h1, h2⟩
abbrev nilV : Value := .slice none 0 0
/-- A value of the map, as it stands there. -/
def heldV (v : Value) : Option (DataW Value × List MemPlace) := some (.held v, [])
/-- The state: the set, who waits for whom, and where that lies. -/
structure Mm where
  vm : Value
  n : Nat
  D : DataW Value
  f : Int → Value
  M : List Int
  Wt : Int → List Int
/-- What may still be written. -/
def Mm.fs (m : Mm) (C mb : Nat) (j : Nat) : Prop := j = C ∨ j = mb ∨ j ∈ blk m.vm ∨ ∃ k, k ∉ m.M ∧ j ∈ blk (m.f k)
structure MS (W0 : World) (C mb base : Nat) (up : Int) (v : Value) (ok : Int → Prop) (m : Mm) (s : Nat) (W : World) : Prop where
  low : Below W0.heap.size W0 W
  c0 : W0.heap.size ≤ C
  c1 : C < base
  m0 : W0.heap.size ≤ mb
  m1 : mb < base
  cm : C ≠ mb
  bz : base ≤ W.heap.size
  blk' : W.heap[C]? = some (mkb up v m.vm mb)
  map : W.ownsMap Tryz.prog 2 heldV mb m.n m.D
  tidy : Tidy m.D
  look : ∀ a, m.D.atKey (kI a) (.held nilV) = .held (m.f a)
  mown : rows.Own W base m.vm m.M
  wown : ∀ a, rows.Own W base (m.f a) (m.Wt a)
  ap : ∀ a b, a ≠ b → ∀ k ∈ blk (m.f a), k ∉ blk (m.f b)
  am : ∀ a, ∀ k ∈ blk (m.f a), k ∉ blk m.vm
  wok : ∀ a, ∀ x ∈ m.Wt a, ok x
  nl : m.n + s ≤ m.M.length
  wl : ∀ a, (m.Wt a).length + 20 * s ≤ 20 * m.M.length
  ml : m.M.length ≤ 500
theorem MS.less {W0 : World} {C mb base : Nat} {up : Int} {v : Value} {ok : Int → Prop} {m : Mm} {s t : Nat} {W : World} (h : MS W0 C mb base up v ok m s W) (ht : t ≤ s) : MS W0 C mb base up v ok m t W :=
  { h with nl := by have := h.nl; omega, wl := fun a => by have := h.wl a; omega }
theorem MS.fsLow {W0 : World} {C mb base : Nat} {up : Int} {v : Value} {ok : Int → Prop} {m : Mm} {s : Nat} {W : World} (h : MS W0 C mb base up v ok m s W) {j : Nat} (hj : m.fs C mb j) : W0.heap.size ≤ j ∧ j < W.heap.size := by
  have := h.c0; have := h.c1; have := h.m0; have := h.m1; have := h.bz
  rcases hj with rfl | rfl | hj | ⟨k, _, hj⟩
  · omega
  · omega
  · have := blk_lt h.mown j hj; omega
  · have := blk_lt (h.wown k) j hj; omega
theorem MS.below {W0 : World} {C mb base : Nat} {up : Int} {v : Value} {ok : Int → Prop} {m : Mm} {s : Nat} {W W' : World} (h : MS W0 C mb base up v ok m s W) (hb : Below W.heap.size W W') : MS W0 C mb base up v ok m s W' :=
  { h with low := h.low.trans (hb.mono h.low.size), bz := Nat.le_trans h.bz hb.size, blk' := (hb.block _ (lt_of_block h.blk')).trans h.blk', map := map_same h.map (hb.block _ h.map.lt), mown := own_below h.mown hb, wown := fun a => own_below (h.wown a) hb }
/-- From one state to a later one. -/
structure MR (W0 : World) (C mb base : Nat) (up : Int) (v : Value) (ok : Int → Prop) (s : Nat) (m : Mm) (W : World) (m' : Mm) (W' : World) : Prop where
  ms : MS W0 C mb base up v ok m' s W'
  ch : ChP (m.fs C mb) W W'
  sub : ∀ j, m'.fs C mb j → m.fs C mb j ∨ W.heap.size ≤ j
  le : ∀ a ∈ m.M, a ∈ m'.M
  ln : m.M.length ≤ m'.M.length
theorem MR.refl {W0 : World} {C mb base : Nat} {up : Int} {v : Value} {ok : Int → Prop} {m : Mm} {s : Nat} {W : World} (h : MS W0 C mb base up v ok m s W) : MR W0 C mb base up v ok s m W m W := ⟨h, ChP.refl _ _, fun j hj => .inl hj, fun a ha => ha, Nat.le_refl _⟩
theorem MR.trans {W0 : World} {C mb base : Nat} {up : Int} {v : Value} {ok : Int → Prop} {m m1 m2 : Mm} {s t : Nat} {W W1 W2 : World} (h : MR W0 C mb base up v ok s m W m1 W1) (k : MR W0 C mb base up v ok t m1 W1 m2 W2) : MR W0 C mb base up v ok t m W m2 W2 :=
  ⟨k.ms, h.ch.trans k.ch h.sub, fun j hj => (k.sub j hj).elim (h.sub j) (fun e => .inr (Nat.le_trans h.ch.size e)), fun a ha => k.le a (h.le a ha), Nat.le_trans h.ln k.ln⟩
theorem MR.below {W0 : World} {C mb base : Nat} {up : Int} {v : Value} {ok : Int → Prop} {m m1 : Mm} {s : Nat} {W W1 W2 : World} (h : MR W0 C mb base up v ok s m W m1 W1) (hb : Below W1.heap.size W1 W2) : MR W0 C mb base up v ok s m W m1 W2 :=
  ⟨h.ms.below hb, h.ch.trans (chP_below (S := fun _ => False) hb) (fun j hj => hj.elim), h.sub, h.le, h.ln⟩
theorem MR.ahead {W0 : World} {C mb base : Nat} {up : Int} {v : Value} {ok : Int → Prop} {m m1 : Mm} {s : Nat} {W W1 W2 : World} (hb : Below W.heap.size W W1) (h : MR W0 C mb base up v ok s m W1 m1 W2) : MR W0 C mb base up v ok s m W m1 W2 :=
  ⟨h.ms, (chP_below hb).trans h.ch (fun j hj => .inl hj), fun j hj => (h.sub j hj).imp id (fun e => Nat.le_trans hb.size e), h.le, h.ln⟩
theorem MR.less {W0 : World} {C mb base : Nat} {up : Int} {v : Value} {ok : Int → Prop} {m m1 : Mm} {s t : Nat} {W W1 : World} (h : MR W0 C mb base up v ok s m W m1 W1) (ht : t ≤ s) : MR W0 C mb base up v ok t m W m1 W1 := ⟨h.ms.less ht, h.ch, h.sub, h.le, h.ln⟩
theorem len_put_new {a : Int} {M : List Int} (hr : Rising M) (hn : a ∉ M) : (putI a M).length = M.length + 1 := by
  obtain ⟨h1, h2, h3⟩ := len_putI (n := a) (xs := M)
  have : (putI a M).length ≠ M.length := fun e => hn (by have := h3 e; rw [← this]; exact mem_putI.2 (.inl rfl))
  omega
/-- An object comes to the set. -/
theorem MS.come {W0 : World} {C mb base : Nat} {up : Int} {v : Value} {ok : Int → Prop} {m : Mm} {s : Nat} {W W' : World} (h : MS W0 C mb base up v ok m s W) (hr : Rising m.M) {a : Int} (hn : a ∉ m.M) {v' : Value} (hl : (putI a m.M).length ≤ 500)
    (h1 : W'.heap[C]? = some (mkb up v v' mb)) (h2 : rows.Own W' base v' (putI a m.M)) (h3 : Ch (C :: blk m.vm) W W') (h4 : ∀ k ∈ blk v', k ∈ blk m.vm ∨ W.heap.size ≤ k) :
    MR W0 C mb base up v ok (s + 1) m W { m with vm := v', M := putI a m.M } W' := by
  have hne : ∀ k, k ∈ C :: blk m.vm → W0.heap.size ≤ k := fun k hk => by
    rcases List.mem_cons.1 hk with rfl | hk
    · exact h.c0
    · have := blk_lt h.mown k hk; have := h.c0; have := h.c1; omega
  have hw : ∀ a, ∀ k ∈ blk (m.f a), k ∉ C :: blk m.vm := fun a k hk hc => by
    rcases List.mem_cons.1 hc with rfl | hc
    · have := blk_lt (h.wown a) k hk; have := h.c1; omega
    · exact h.am a k hk hc
  have hmb : mb ∉ C :: blk m.vm := fun hc => by
    rcases List.mem_cons.1 hc with e | hc
    · exact h.cm e.symm
    · have := blk_lt h.mown mb hc; have := h.m1; omega
  have hlen := len_put_new hr hn
  refine ⟨?_, chP_ch h3 (fun k hk => ?_), fun j hj => ?_, fun b hb => mem_putI.2 (.inr hb), by show _ ≤ (putI a m.M).length; omega⟩
  · exact { low := h.low.trans (below_ch h3 h.low.size hne), c0 := h.c0, c1 := h.c1, m0 := h.m0, m1 := h.m1, cm := h.cm, bz := Nat.le_trans h.bz h3.size, blk' := h1, map := map_same h.map (h3.block mb h.map.lt hmb), tidy := h.tidy, look := h.look, mown := h2, wown := fun b => row_ch (h.wown b) h3 (hw b), ap := h.ap, wok := h.wok, ml := hl,
            am := fun b k hk hc => by
              rcases h4 k hc with e | e
              · exact h.am b k hk e
              · have := blk_lt (h.wown b) k hk; omega
            nl := by show _ ≤ (putI a m.M).length; have := h.nl; show m.n + (s + 1) ≤ _; omega
            wl := fun b => by show (m.Wt b).length + 20 * (s + 1) ≤ 20 * (putI a m.M).length; have := h.wl b; omega }
  · rcases List.mem_cons.1 hk with rfl | hk
    · exact .inl rfl
    · exact .inr (.inr (.inl hk))
  · rcases hj with e | e | e | ⟨k, hk, e⟩
    · exact .inl (.inl e)
    · exact .inl (.inr (.inl e))
    · exact (h4 j e).imp (fun e => .inr (.inr (.inl e))) id
    · exact .inl (.inr (.inr (.inr ⟨k, fun hc => hk (mem_putI.2 (.inr hc)), e⟩)))
/-- What the map has of a place. -/
theorem MS.lookup {W0 : World} {C mb base : Nat} {up : Int} {v : Value} {ok : Int → Prop} {m : Mm} {s : Nat} {W : World} (h : MS W0 C mb base up v ok m s W) {a : Int} (ha : I64 a) : (Instr.lookup 105 (.map (some mb)) (.int .i64 a) false).run Tryz.prog W = .ok (m.f a) W := by
  have HKY : keyOf Tryz.prog 2 (.int .i64 a) = some (kI a) := keyOf_int_mk Tryz.underlying2 (WalkArith.wf_i64 ha)
  obtain ⟨u, ps, hrun, hv⟩ := h.map.lookup (t := 105) (e := 22) lawK Tryz.underlying105 (z := nilV) (by kernel_rfl) (zd := .held nilV) (zp := []) rfl HKY
  rw [h.look a] at hv
  unfold heldV at hv
  injection hv with hv
  injection hv with hv _
  injection hv with hv
  rw [hrun, hv]
/-- Words come to wait for one that is not in the set. -/
theorem MS.wait {W0 : World} {C mb base : Nat} {up : Int} {v : Value} {ok : Int → Prop} {m : Mm} {s : Nat} {W W1 : World} (h : MS W0 C mb base up v ok m (s + 1) W) {a : Int} (ha : I64 a) (hn : a ∉ m.M) {v' : Value} {L : List Int} (hL : L.length ≤ 20) (hok : ∀ x ∈ L, ok x)
    (h2 : rows.Own W1 base v' (m.Wt a ++ L)) (h3 : Ch (blk (m.f a)) W W1) (h4 : ∀ k ∈ blk v', k ∈ blk (m.f a) ∨ W.heap.size ≤ k) :
    ∃ W2 D', (Instr.mapUpdate 105 (.map (some mb)) (.int .i64 a) v').run Tryz.prog W1 = .ok () W2 ∧
      MR W0 C mb base up v ok s m W { m with n := m.n + 1, D := D', f := fun q => if q = a then v' else m.f q, Wt := fun q => if q = a then m.Wt a ++ L else m.Wt q } W2 := by
  have HKY : keyOf Tryz.prog 2 (.int .i64 a) = some (kI a) := keyOf_int_mk Tryz.underlying2 (WalkArith.wf_i64 ha)
  have hlow : ∀ k ∈ blk (m.f a), base ≤ k ∧ k < W.heap.size := blk_lt (h.wown a)
  have hmb : mb ∉ blk (m.f a) := fun hc => by have := hlow mb hc; have := h.m1; omega
  have hC : C ∉ blk (m.f a) := fun hc => by have := hlow C hc; have := h.c1; omega
  have M1 := map_same (w' := W1) h.map (h3.block mb h.map.lt hmb)
  have hnl := h.nl
  have hml := h.ml
  obtain ⟨W2, hrun, M2, g2⟩ := M1.update (t := 105) (e := 22) lawK Tryz.underlying105 (by unfold maxLen; omega) HKY (val := v') (d := .held v') (ps := []) rfl
  have c2 : Ch [mb] W1 W2 := ⟨g2.os, g2.tape, g2.output, g2.size, fun k hk hn => g2.block k hk (fun e => hn (by cases e; simp))⟩
  have hbv : ∀ k ∈ blk v', base ≤ k ∧ k < W1.heap.size := blk_lt h2
  refine ⟨W2, m.D.put (kI a) (.held v'), hrun, ⟨?_, ?_, fun j hj => ?_, fun b hb => hb, Nat.le_refl _⟩⟩
  · refine { low := ?_, c0 := h.c0, c1 := h.c1, m0 := h.m0, m1 := h.m1, cm := h.cm, bz := Nat.le_trans h.bz (Nat.le_trans h3.size c2.size), blk' := ?_, map := M2, tidy := h.tidy.put (kI_key _) _, look := fun q => ?_, mown := ?_, wown := fun q => ?_, ap := fun p q hpq k hk => ?_, am := fun q k hk => ?_, wok := fun q x hx => ?_, ml := hml, nl := ?_, wl := fun q => ?_ }
    · refine (h.low.trans (below_ch h3 h.low.size (fun k hk => ?_))).trans (below_ch c2 (Nat.le_trans h.low.size h3.size) (fun k hk => ?_))
      · have := hlow k hk; have := h.c0; have := h.c1; omega
      · have e : k = mb := by simpa using hk
        rw [e]; exact h.m0
    · exact (c2.block C (Nat.lt_of_lt_of_le (lt_of_block h.blk') h3.size) (by simpa using h.cm)).trans ((h3.block C (lt_of_block h.blk') hC).trans h.blk')
    · show (m.D.put (kI a) (.held v')).atKey (kI q) _ = .held (if q = a then v' else m.f q)
      by_cases e : q = a
      · subst e; rw [if_pos rfl]; exact Maps.atKey_put_same h.tidy.isMap (kI_key _) _ _
      · rw [if_neg e, Maps.atKey_put_other (kI_ne e)]; exact h.look q
    · refine row_ch (row_ch h.mown h3 (fun k hk hc => h.am a k hc hk)) c2 (fun k hk hc => ?_)
      have e : k = mb := by simpa using hc
      have := blk_lt h.mown k hk; have := h.m1; omega
    · show rows.Own W2 base (if q = a then v' else m.f q) (if q = a then m.Wt a ++ L else m.Wt q)
      by_cases e : q = a
      · rw [if_pos e, if_pos e]
        refine row_ch h2 c2 (fun k hk hc => ?_)
        have e : k = mb := by simpa using hc
        have := hbv k hk; have := h.m1; omega
      · rw [if_neg e, if_neg e]
        refine row_ch (row_ch (h.wown q) h3 (fun k hk hc => h.ap q a e k hk hc)) c2 (fun k hk hc => ?_)
        have e : k = mb := by simpa using hc
        have := blk_lt (h.wown q) k hk; have := h.m1; omega
    · have hk' : k ∈ blk (if p = a then v' else m.f p) := hk
      show k ∉ blk (if q = a then v' else m.f q)
      by_cases e1 : p = a
      · rw [if_pos e1] at hk'
        rw [if_neg (fun e => hpq (e1.trans e.symm))]
        rcases h4 k hk' with e | e
        · exact h.ap a q (fun e' => hpq (e1.trans e')) k e
        · exact fun hc => by have := blk_lt (h.wown q) k hc; omega
      · rw [if_neg e1] at hk'
        by_cases e2 : q = a
        · rw [if_pos e2]
          intro hc
          rcases h4 k hc with e | e
          · exact h.ap p a e1 k hk' e
          · have := blk_lt (h.wown p) k hk'; omega
        · rw [if_neg e2]; exact h.ap p q hpq k hk'
    · have hk' : k ∈ blk (if q = a then v' else m.f q) := hk
      by_cases e1 : q = a
      · rw [if_pos e1] at hk'
        rcases h4 k hk' with e | e
        · exact h.am a k e
        · exact fun hc => by have := blk_lt h.mown k hc; omega
      · rw [if_neg e1] at hk'; exact h.am q k hk'
    · have hx' : x ∈ (if q = a then m.Wt a ++ L else m.Wt q) := hx
      by_cases e1 : q = a
      · rw [if_pos e1] at hx'
        rcases List.mem_append.1 hx' with e | e
        · exact h.wok a x e
        · exact hok x e
      · rw [if_neg e1] at hx'; exact h.wok q x hx'
    · show m.n + 1 + s ≤ m.M.length
      omega
    · show (if q = a then m.Wt a ++ L else m.Wt q).length + 20 * s ≤ 20 * m.M.length
      by_cases e1 : q = a
      · rw [if_pos e1, List.length_append]; have := h.wl a; omega
      · rw [if_neg e1]; have := h.wl q; omega
  · refine (chP_ch h3 (fun k hk => .inr (.inr (.inr ⟨a, hn, hk⟩)))).trans (chP_ch (S := fun j => j = mb) c2 (fun k hk => by simpa using hk)) (fun j e => .inl (.inr (.inl e)))
  · rcases hj with e | e | e | ⟨k, hk, e⟩
    · exact .inl (.inl e)
    · exact .inl (.inr (.inl e))
    · exact .inl (.inr (.inr (.inl e)))
    · have e' : j ∈ blk (if k = a then v' else m.f k) := e
      by_cases e1 : k = a
      · rw [if_pos e1] at e'
        exact (h4 j e').imp (fun e => .inr (.inr (.inr ⟨a, hn, e⟩))) id
      · rw [if_neg e1] at e'
        exact .inl (.inr (.inr (.inr ⟨k, hk, e'⟩)))
end Go.Proofs.YtacilbilnbmcbaaGreatDoor.hp
namespace Go.Proofs.YtacilbilnbmcbaaGreatDoor.hp
open Go.RowKit rows heads words walks region
set_option maxRecDepth 100000
set_option linter.unusedVariables false
set_option linter.unusedSimpArgs false

/-- Is there an object that is no note at this place, with such a slot? -/
def slotB (H : Hp) (ps : List Int) (p k : Int) : Bool := decide (p ∈ objL H ps) && (!(uF (H.row.getD p.toNat 0) == 7) && (decide (0 ≤ k) && decide (k < uS (H.row.getD p.toNat 0))))
/-- The word there. -/
def slotW (H : Hp) (p k : Int) : Int := H.row.getD (p.toNat + 1 + k.toNat) 0
theorem slot_in {H : Hp} {ps : List Int} (R : Rt H ps) {p k : Int} (h : slotB H ps p k = true) : ∃ j m : Nat, p = j ∧ k = m ∧ j + 1 + m < H.row.length ∧ slotW H p k = H.row.getD (j + 1 + m) 0 ∧ wordIn H ps (H.row.getD (j + 1 + m) 0) = true ∧ p ∈ ps ∧ uF (H.row.getD j 0) ≠ 6 ∧ uF (H.row.getD j 0) ≠ 7 ∧ (m : Int) < uS (H.row.getD j 0) := by
  unfold slotB at h
  simp only [Bool.and_eq_true, decide_eq_true_eq, Bool.not_eq_true', beq_eq_false_iff_ne] at h
  obtain ⟨h1, h2, h3, h4⟩ := h
  obtain ⟨hp, h6⟩ := objL_mem h1
  obtain ⟨j, rfl, hjl, hc⟩ := R.plc p hp
  rw [Int.toNat_natCast] at h2 h4 h6
  obtain ⟨m, rfl⟩ : ∃ m : Nat, k = m := ⟨k.toNat, by omega⟩
  have hcn : cnS (H.row.getD j 0) = uS (H.row.getD j 0) := by unfold cnS; rw [if_neg h2, if_neg h6]
  obtain ⟨_, q2⟩ := chunk_slots hc
  rw [hcn] at q2
  have hl : j + 1 + m < H.row.length := by omega
  refine ⟨j, m, rfl, rfl, hl, by unfold slotW; rw [Int.toNat_natCast, Int.toNat_natCast], ?_, hp, h6, h2, h4⟩
  have hs := R.slots
  unfold slotsOk at hs
  rw [List.all_eq_true] at hs
  have h1 := hs _ hp
  rw [List.all_eq_true] at h1
  refine h1 _ ?_
  unfold slotsOf
  rw [Int.toNat_natCast, hcn, List.mem_iff_getElem?]
  refine ⟨m, ?_⟩
  rw [List.getElem?_take, if_pos (by omega), List.getElem?_drop, List.getElem?_eq_getElem hl, List.getD_eq_getElem?_getD, List.getElem?_eq_getElem hl]; rfl
theorem Rt.olen {H : Hp} {ps : List Int} (R : Rt H ps) : (objL H ps).length ≤ 1048576 := by
  have := (places_plc R.some').2
  exact Nat.le_trans (objL_len _ _) (by omega)
/-- Is there such a slot, of a heap that is right? -/
def fetB (H : Hp) (p k : Int) : Bool := heapOk H && slotB H ((placesR H).getD []) p k
/-- What Fetched answers. -/
def fetV (H : Hp) (p k : Int) : Int := if fetB H p k = true then fol H (slotW H p k) else 0
end Go.Proofs.YtacilbilnbmcbaaGreatDoor.hp
namespace Go.Proofs.YtacilbilnbmcbaaGreatDoor.hp
open Go.RowKit rows heads words walks
set_option maxRecDepth 100000
set_option linter.unusedVariables false

/-- The heap with the word there, but for what is seen. -/
def stoH (H : Hp) (p k x : Int) : Hp := { H with row := H.row.set (p.toNat + 1 + k.toNat) x }
/-- And what is seen as it must be. -/
def stoF (H : Hp) (p k x : Int) : Hp := { stoH H p k x with seen := seenL (stoH H p k x) }
theorem set_get (xs : List Int) (q : Nat) (y : Int) (k : Nat) : (xs.set q y).getD k 0 = if k = q ∧ q < xs.length then y else xs.getD k 0 := by
  rw [List.getD_eq_getElem?_getD, List.getElem?_set]
  by_cases h : q = k
  · subst h
    by_cases h2 : q < xs.length
    · simp [h2]
    · rw [if_pos rfl, if_neg h2, if_neg (by simp [h2]), List.getD_eq_getElem?_getD, List.getElem?_eq_none (by omega)]
  · rw [if_neg h, if_neg (fun e => h e.1.symm), ← List.getD_eq_getElem?_getD]
theorem slots_lenI {H : Hp} {j : Nat} (hc : chunk H.row j ≠ 0) : ((slotsOf H (j : Int)).length : Int) = cnS (H.row.getD j 0) := by
  obtain ⟨q1, q2⟩ := chunk_slots hc
  unfold slotsOf
  rw [Int.toNat_natCast, List.length_take, List.length_drop]
  omega
structure Sto (H : Hp) (ps : List Int) (p k : Int) (j m : Nat) : Prop where
  ep : p = j
  ek : k = m
  lt : j + 1 + m < H.row.length
  mem : (j : Int) ∈ ps
  obj : (j : Int) ∈ objL H ps
  n6 : uF (H.row.getD j 0) ≠ 6
  n7 : uF (H.row.getD j 0) ≠ 7
  slot : m < (slotsOf H (j : Int)).length
  chk : chunk H.row j ≠ 0
theorem sto_of {H : Hp} {ps : List Int} (R : Rt H ps) {p k : Int} (h : slotB H ps p k = true) : ∃ j m, Sto H ps p k j m := by
  obtain ⟨j, m, h1, h2, h3, _, _, h6, h7, h8, h9⟩ := slot_in R h
  subst h1
  obtain ⟨j', e, _, hc⟩ := R.plc _ h6
  obtain rfl : j = j' := by omega
  have hl := slots_lenI hc
  have hcn : cnS (H.row.getD j 0) = uS (H.row.getD j 0) := by unfold cnS; rw [if_neg h8, if_neg h7]
  have ho : (j : Int) ∈ objL H ps := by
    unfold slotB at h
    simp only [Bool.and_eq_true, decide_eq_true_eq] at h
    exact h.1
  exact ⟨j, m, rfl, h2, h3, h6, ho, h7, h8, by omega, hc⟩
theorem Sto.row {H : Hp} {ps : List Int} {p k : Int} {j m : Nat} (S : Sto H ps p k j m) (x : Int) : (stoH H p k x).row = H.row.set (j + 1 + m) x := by
  show H.row.set _ _ = _
  rw [S.ep, S.ek, Int.toNat_natCast, Int.toNat_natCast]
theorem Sto.dif {H : Hp} {ps : List Int} {p k : Int} {j m : Nat} (S : Sto H ps p k j m) (x : Int) : Dif H [(j : Int)] (stoH H p k x).row := by
  rw [S.row x]
  refine ⟨List.length_set .., fun q hq => ?_⟩
  rw [set_get, if_neg]
  rintro ⟨rfl, _⟩
  unfold cov covP at hq
  rw [List.any_eq_false] at hq
  refine hq (j : Int) (List.mem_singleton.2 rfl) ?_
  simp only [Bool.and_eq_true, decide_eq_true_eq, Int.toNat_natCast, ntH, Bool.not_eq_true', beq_eq_false_iff_ne]
  exact ⟨⟨S.n7, by omega⟩, by have := S.slot; omega⟩
theorem Sto.places {H : Hp} {ps : List Int} (R : Rt H ps) {p k : Int} {j m : Nat} (S : Sto H ps p k j m) (x : Int) : placesR (stoH H p k x) = some ps ∧ upW (stoH H p k x) = upW H ∧ Nums (stoH H p k x) ∧ numB (stoH H p k x) = true :=
  sim_places R.some' (os := [(j : Int)]) (fun q hq => by rw [List.mem_singleton.1 hq]; exact S.obj) (S.dif x) rfl rfl rfl rfl rfl rfl rfl
/-- Slots of another chunk stay. -/
theorem Sto.other {H : Hp} {ps : List Int} (R : Rt H ps) {p k : Int} {j m : Nat} (S : Sto H ps p k j m) (x : Int) {i : Nat} (hi : (i : Int) ∈ ps) (hne : i ≠ j) : slotsOf (stoH H p k x) (i : Int) = slotsOf H (i : Int) := by
  have hA := apart_of R.some'
  have hS := sim_of hA (os := [(j : Int)]) (fun q hq => by rw [List.mem_singleton.1 hq]; exact S.obj) (S.dif x) (H' := stoH H p k x)
  obtain ⟨_, e, _, hc⟩ := R.plc _ hi
  obtain rfl := Int.ofNat_inj.1 e
  have hs := slots_end S.chk S.n6
  have hsl := S.slot
  unfold slotsOf
  rw [Int.toNat_natCast, hS.head i hi, S.row x]
  obtain ⟨q1, q2⟩ := chunk_slots hc
  have hcl : i + 1 + (cnS (H.row.getD i 0)).toNat ≤ j + 1 + m ∨ j + 1 + m < i + 1 := by
    by_cases h6 : uF (H.row.getD i 0) = 6
    · have e0 : cnS (H.row.getD i 0) = 0 := by unfold cnS; rw [if_neg (by omega), if_pos h6]
      rw [e0]
      by_cases hl : i < j
      · left; simp; omega
      · right
        have := hA.two S.mem hi (by omega)
        omega
    · have se := slots_end hc h6
      have sl := slots_lenI hc
      by_cases hl : i < j
      · have := hA.two hi S.mem hl
        left; omega
      · have := hA.two S.mem hi (by omega)
        right; omega
  rcases hcl with h | h
  · rw [List.drop_set, if_neg (by omega), List.take_set_of_le (by omega)]
  · rw [List.drop_set, if_pos (by omega)]
/-- Its own Slots have the word. -/
theorem Sto.own {H : Hp} {ps : List Int} (R : Rt H ps) {p k : Int} {j m : Nat} (S : Sto H ps p k j m) (x : Int) : slotsOf (stoH H p k x) (j : Int) = (slotsOf H (j : Int)).set m x := by
  have hA := apart_of R.some'
  have hS := sim_of hA (os := [(j : Int)]) (fun q hq => by rw [List.mem_singleton.1 hq]; exact S.obj) (S.dif x) (H' := stoH H p k x)
  unfold slotsOf
  rw [Int.toNat_natCast, hS.head j S.mem, S.row x, List.drop_set, if_neg (by omega), show j + 1 + m - (j + 1) = m by omega, List.take_set]
theorem young_sto (H : Hp) (p k x : Int) : youngB (stoH H p k x) = youngB H := rfl
/-- Does the object see the young once the word is there? -/
def stoSee (H : Hp) (p k x : Int) : Bool := ((slotsOf H p).set k.toNat x).any (youngB H)
theorem filter_put (f : Int → Bool) (p : Int) : ∀ u : List Int, Rising u → p ∈ u → u.filter (fun q => q == p || f q) = putI p (u.filter f)
  | [], _, h => by simp at h
  | q :: u, hr, h => by
    have hr' := List.pairwise_cons.1 hr
    rcases List.mem_cons.1 h with rfl | h
    · rw [List.filter_cons_of_pos (by simp)]
      have e : u.filter (fun q => q == p || f q) = u.filter f := by
        refine List.filter_congr (fun q hq => ?_)
        have := hr'.1 q hq
        have : (q == p) = false := by simpa using (by omega : q ≠ p)
        rw [this, Bool.false_or]
      rw [e]
      have hlt : ∀ q ∈ u.filter f, p < q := fun q hq => hr'.1 q (List.mem_filter.1 hq).1
      by_cases hf : f p = true
      · rw [List.filter_cons_of_pos hf]
        unfold putI
        simp
      · rw [List.filter_cons_of_neg hf]
        cases hu : u.filter f with
        | nil => simp [putI]
        | cons a l =>
          have := hlt a (by rw [hu]; exact List.mem_cons_self ..)
          unfold putI
          rw [if_neg (by omega), if_neg (by omega)]
    · have ih := filter_put f p u hr'.2 h
      have hqp := hr'.1 p h
      have hne : (q == p) = false := by simpa using (by omega : q ≠ p)
      by_cases hf : f q = true
      · rw [List.filter_cons_of_pos (by rw [hne, hf]; rfl), List.filter_cons_of_pos hf, ih]
        conv => rhs; unfold putI
        rw [if_pos hqp]
      · rw [List.filter_cons_of_neg (by rw [hne, Bool.false_or]; exact hf), List.filter_cons_of_neg hf, ih]
theorem up_mem {H : Hp} {ps : List Int} (R : Rt H ps) {u : List Int} (hu : upW H = some u) {j : Nat} (hj : (j : Int) ∈ ps) : (j : Int) ∈ u ↔ 2 * H.half ≤ (j : Int) := by
  obtain ⟨N, _, r, u', hr, hu', _, e⟩ := places_facts R.some'
  rw [hu] at hu'
  cases hu'
  have hl := N.len
  have h3 := N.room
  have hh := N.half
  have m1 : ∀ p ∈ r, p < 2 * (hf H : Int) := fun p hp => by
    obtain ⟨j, e, _, b, _⟩ := walkO_mem (by omega) hr hp
    omega
  have m2 : ∀ p ∈ u, 2 * (hf H : Int) ≤ p := fun p hp => by
    obtain ⟨j, e, b, _, _⟩ := walkO_mem (by omega) hu hp
    omega
  constructor
  · intro h; have := m2 _ h; omega
  · intro h
    rw [e] at hj
    rcases List.mem_append.1 hj with h1 | h1
    · have := m1 _ h1; omega
    · exact h1
/-- What is seen once the word is stored: the place goes, or it comes. -/
theorem Sto.seen {H : Hp} {ps : List Int} (R : Rt H ps) {p k : Int} {j m : Nat} (S : Sto H ps p k j m) (x : Int) : seenL (stoH H p k x) = if (decide (p < 2 * H.half) || !(stoSee H p k x)) = true then (seenL H).filter (fun q => !(q == p)) else putI p (seenL H) := by
  obtain ⟨_, hup, _, _⟩ := S.places R x
  obtain ⟨N, _, r, u, hr, hu, _, e⟩ := places_facts R.some'
  have hsub : ∀ q ∈ u, q ∈ ps := fun q hq => by rw [e]; exact List.mem_append.2 (.inr hq)
  have hru : Rising u := walkO_rising hu
  have hse : stoSee H p k x = ((slotsOf H (j : Int)).set m x).any (youngB H) := by unfold stoSee; rw [S.ep, S.ek, Int.toNat_natCast]
  have hf : ∀ q ∈ u, ((slotsOf (stoH H p k x) q).any (youngB (stoH H p k x))) = if q = p then stoSee H p k x else (slotsOf H q).any (youngB H) := fun q hq => by
    obtain ⟨i, rfl, _, _⟩ := R.plc _ (hsub q hq)
    by_cases hij : i = j
    · subst hij
      rw [if_pos S.ep.symm, S.own R x, young_sto, hse]
    · rw [if_neg (by rw [S.ep]; omega), S.other R x (hsub _ hq) hij, young_sto]
  have hL : seenL (stoH H p k x) = u.filter (fun q => if q = p then stoSee H p k x else (slotsOf H q).any (youngB H)) := by
    unfold seenL
    rw [hup, hu, Option.getD_some]
    exact List.filter_congr hf
  have hL0 : seenL H = u.filter (fun q => (slotsOf H q).any (youngB H)) := by unfold seenL; rw [hu, Option.getD_some]
  rw [hL, hL0]
  by_cases hb : stoSee H p k x = true
  · rw [hb]
    by_cases hp : p < 2 * H.half
    · rw [if_pos (by simp [hp]), List.filter_filter]
      refine List.filter_congr (fun q hq => ?_)
      have hne : q ≠ p := by
        rintro rfl
        have := (up_mem R hu S.mem).1 (by rw [← S.ep]; exact hq)
        rw [S.ep] at hp
        omega
      rw [if_neg hne]
      have : (q == p) = false := by simpa using hne
      rw [this]; simp
    · rw [if_neg (by simp [hp]), ← filter_put _ p u hru (by rw [S.ep]; exact (up_mem R hu S.mem).2 (by rw [← S.ep]; omega))]
      refine List.filter_congr (fun q hq => ?_)
      by_cases h : q = p
      · rw [if_pos h]; simp [h]
      · rw [if_neg h]
        have : (q == p) = false := by simpa using h
        rw [this, Bool.false_or]
  · have hb' : stoSee H p k x = false := by simpa using hb
    rw [hb', if_pos (by simp), List.filter_filter]
    refine List.filter_congr (fun q hq => ?_)
    by_cases h : q = p
    · rw [if_pos h]; simp [h]
    · rw [if_neg h]
      have : (q == p) = false := by simpa using h
      rw [this]; simp
end Go.Proofs.YtacilbilnbmcbaaGreatDoor.hp
namespace Go.Proofs.YtacilbilnbmcbaaGreatDoor.hp
open Go.RowKit rows heads words walks region
set_option maxRecDepth 100000
set_option linter.unusedVariables false
set_option linter.unusedSimpArgs false

theorem own_store {W : World} {base g k : Nat} {xs : List Int} (h : rows.Own W base (.slice (some ⟨g, 0, none⟩) xs.length k) xs) (i : Nat) (x : Int) : rows.Own (W.setCell ⟨g, i, none⟩ (.int .i64 x)) base (.slice (some ⟨g, 0, none⟩) xs.length k) (xs.set i x) := by
  have := (World.ownsRow.stored h i (.int .i64 x)).1
  rw [show (cellsOf xs).set i (.int .i64 x) = cellsOf (xs.set i x) by simp [cellsOf, List.map_set]] at this
  show World.ownsRow _ _ _ _ _ _ _
  rw [List.length_set]
  exact this
theorem own_at {W : World} {base g k : Nat} {xs : List Int} (h : rows.Own W base (.slice (some ⟨g, 0, none⟩) xs.length k) xs) {q : Nat} (hq : q < xs.length) : W.cell? ⟨g, q, none⟩ = some (.int .i64 (xs.getD q 0)) ∧ W.frozen? ⟨g, q, none⟩ = false := by
  refine ⟨?_, World.ownsRow.frozenAt h q⟩
  rw [World.ownsRow.cellAt h q (by omega)]
  simp [cellsOf, hq, List.getD_eq_getElem?_getD]
/-- Can it be stored? -/
def stoB (H : Hp) (ps : List Int) (p k x : Int) : Bool := slotB H ps p k && wordIn H ps x
/-- A word of a heap of the call's own is written. -/
theorem ownH_row {W : World} {base g k : Nat} {vo vm vs : Value} {H : Hp} (h : OwnH W base (.slice (some ⟨g, 0, none⟩) H.row.length k) vo vm vs H) (i : Nat) (x : Int) : OwnH (W.setCell ⟨g, i, none⟩ (.int .i64 x)) base (.slice (some ⟨g, 0, none⟩) H.row.length k) vo vm vs { H with row := H.row.set i x } := by
  have hn := h.2
  unfold hblk at hn
  rw [show blk (.slice (some ⟨g, 0, none⟩) H.row.length k) = [g] from rfl] at hn
  simp only [List.cons_append, List.nil_append, List.nodup_cons, List.mem_append, not_or] at hn
  exact ⟨⟨own_store h.1.1 i x, row_ch (S := [g]) h.1.2.1 (one_ch _ _ _ _) (fun j hj => by simp; rintro rfl; exact hn.1.1.1 hj), row_ch (S := [g]) h.1.2.2.1 (one_ch _ _ _ _) (fun j hj => by simp; rintro rfl; exact hn.1.1.2 hj), row_ch (S := [g]) h.1.2.2.2 (one_ch _ _ _ _) (fun j hj => by simp; rintro rfl; exact hn.1.2 hj)⟩, h.2⟩
/-- What Stored answers. -/
def stoOkB (H : Hp) (p k x : Int) : Bool := heapOk H && stoB H ((placesR H).getD []) p k x
def stoOk (H : Hp) (p k x : Int) : Hp := if heapOk H = true then (if stoB H ((placesR H).getD []) p k x = true then stoF H p k x else H) else hp0
theorem ownZ (w : World) (b : Nat) : OwnH w b (.slice none 0 0) (.slice none 0 0) (.slice none 0 0) (.slice none 0 0) hp0 :=
  ⟨⟨World.ownsRow_nil _ _ _ _, World.ownsRow_nil _ _ _ _, World.ownsRow_nil _ _ _ _, World.ownsRow_nil _ _ _ _⟩, by simp [hblk, blk, Value.ownBlock]⟩
theorem stoOk_size {H : Hp} {p k x : Int} (hs : hpSize H ≤ 1048576) : hpSize (stoOk H p k x) ≤ 1048576 := by
  unfold stoOk
  split
  · rename_i h
    obtain ⟨ps, R⟩ := rt_of (ok_right h).1
    rw [R.some', Option.getD_some]
    split
    · rename_i hb
      unfold stoB at hb
      rw [Bool.and_eq_true] at hb
      obtain ⟨j, m, S⟩ := sto_of R hb.1
      obtain ⟨hp', _, _, _⟩ := S.places R x
      obtain ⟨_, _, r, u, _, hu, _, e⟩ := places_facts hp'
      have hl := (places_plc hp').2
      rw [e, List.length_append] at hl
      have hsn : (seenL (stoH H p k x)).length ≤ 500 := by
        unfold seenL
        rw [hu, Option.getD_some]
        exact Nat.le_trans (List.length_filter_le _ _) (by omega)
      have hrl := R.len
      have N := (places_facts R.some').1
      have hr6 := N.roots
      have hm40 := N.mourned
      show (H.row.set _ x).length + H.roots.length + H.mourned.length + (seenL (stoH H p k x)).length ≤ _
      rw [List.length_set]
      omega
    · exact hs
  · exact Nat.zero_le _
end Go.Proofs.YtacilbilnbmcbaaGreatDoor.hp
