/-
  Chapter 14 as lists: what mourning keeps; the heap that is grieved. Chapter 14: a heap of the call's own whose Mourned grows. Chapter 14: the graph that is mourned, in memory; what is mourned keeps or loses its Format. Chapter 10 as the specification has it: what a word shows. Chapter 14 as lists: what Grieved answers. Chapter 9 as the specification has it: a heap's own copy. Chapter 9 as the program has it: the word of a note.
-/
import Derived.Test.YtjdpbdadeeoplaaGreatDoorM19
import Derived.Test.YtjdpbdadeeoplaaGreatDoorM7
import Derived.Test.YtjdpbdadeeoplaaGreatDoorM14
import Derived.Test.YtjdpbdadeeoplaaGreatDoorM5
import Derived.Test.YtjdpbdadeeoplaaGreatDoorM1
import Derived.Test.YtjdpbdadeeoplaaGreatDoorM17
namespace Go.Proofs.YtjdpbdadeeoplaaGreatDoor.gr
open Go.RowKit rows heads
set_option maxRecDepth 100000
set_option linter.unusedVariables false

/-- What mourning keeps. -/
def Keeps (G R : Gr) : Prop := R.objs.length = G.objs.length ∧ R.objs.map Ob.id = G.objs.map Ob.id ∧ ∃ more, R.mourned = G.mourned ++ more ∧ ∀ r ∈ more, ∃ p, p < G.objs.length ∧ r = (2, (G.objs.getD p obD).id)
theorem Keeps.refl (G : Gr) : Keeps G G := ⟨rfl, rfl, [], by simp, fun r hr => by cases hr⟩
theorem Keeps.trans {G R T : Gr} (h : Keeps G R) (k : Keeps R T) : Keeps G T := by
  obtain ⟨h1, h2, m1, e1, a1⟩ := h
  obtain ⟨k1, k2, m2, e2, a2⟩ := k
  refine ⟨k1.trans h1, k2.trans h2, m1 ++ m2, by rw [e2, e1, List.append_assoc], fun r hr => ?_⟩
  rcases List.mem_append.1 hr with hr | hr
  · exact a1 r hr
  · obtain ⟨p, hp, e⟩ := a2 r hr
    exact ⟨p, by omega, by rw [e, id_of_map h2]⟩
theorem keeps_one {G : Gr} {p : Nat} (hp : p < G.objs.length) : Keeps G (mourn1 G p) := by
  refine ⟨mourn1_len G p, plain_ids _ _, ?_⟩
  unfold mourn1
  by_cases h : G.mourned.length < 40
  · exact ⟨[(2, (G.objs.getD p obD).id)], by simp [h], fun r hr => ⟨p, hp, by simpa using hr⟩⟩
  · exact ⟨[], by simp [h], fun r hr => by cases hr⟩
theorem keeps_round : ∀ {ps : List Nat} {G : Gr}, (∀ p ∈ ps, p < G.objs.length) → Keeps G (mournR G ps)
  | [], G, _ => Keeps.refl G
  | p :: ps, G, h => (keeps_one (h p (by simp))).trans (keeps_round (ps := ps) (fun q hq => by rw [mourn1_len]; exact h q (by simp [hq])))
theorem keeps_rounds : ∀ {L : List (List Nat)} {G R : Gr}, Rounds L G R → Keeps G R
  | [], G, R, h => by
    have e : R = G := h.2
    rw [e]; exact Keeps.refl G
  | ps :: L, G, R, h => by
    obtain ⟨h1, h2, h3⟩ := h
    exact (keeps_round (fun p hp => grv_lt ((h2.2 p).1 hp))).trans (keeps_rounds h3)
theorem mourns_keeps {G R : Gr} (h : Mourns G R) : Keeps G R := by
  obtain ⟨L, hL⟩ := h
  exact keeps_rounds hL
end Go.Proofs.YtjdpbdadeeoplaaGreatDoor.gr
namespace Go.Proofs.YtjdpbdadeeoplaaGreatDoor.hp
open Go.RowKit rows heads words walks
set_option maxRecDepth 100000
set_option linter.unusedVariables false

/-- The heap that is grieved: its heads, and what came to Mourned (R: the graph behind all mourning). -/
def grvFs (R : gr.Gr) : List Int := R.objs.map gr.Ob.fmt
def grvMs (H : Hp) (R : gr.Gr) : List Int := (R.mourned.drop H.mourned.length).map (fun r => 4 * (ordH H).getD (r.2 - 1).toNat 0 + 4)
def grvH (H : Hp) (R : gr.Gr) : Hp := { H with row := grvP H (ordH H) (grvFs R) (ordH H).length, mourned := H.mourned ++ grvMs H R }
theorem grv_more {H : Hp} {R : gr.Gr} (h : gr.Mourns (grS H (ordH H)) R) : R.objs.length = (ordH H).length ∧ (∀ i, i < (ordH H).length → (R.objs.getD i gr.obD).id = (i : Int) + 1) ∧ H.mourned.length ≤ R.mourned.length ∧ ∀ r ∈ R.mourned.drop H.mourned.length, ∃ p : Nat, p < (ordH H).length ∧ r = (2, (p : Int) + 1) := by
  obtain ⟨h1, h2, more, e, a⟩ := gr.mourns_keeps h
  have hl : (grS H (ordH H)).objs.length = (ordH H).length := by simp [grS]
  have hm : (grS H (ordH H)).mourned.length = H.mourned.length := by simp [grS]
  have hid : ∀ i, i < (ordH H).length → ((grS H (ordH H)).objs.getD i gr.obD).id = (i : Int) + 1 := fun i hi => by
    show (((List.range (ordH H).length).map (obS H (ordH H))).getD i gr.obD).id = _
    rw [getD_obS hi]
    rfl
  refine ⟨h1.trans hl, fun i hi => (gr.id_of_map h2 i).trans (hid i hi), ?_, fun r hr => ?_⟩
  · rw [e, List.length_append, hm]; omega
  · rw [e, ← hm, List.drop_left] at hr
    obtain ⟨p, hp, er⟩ := a r hr
    rw [hl] at hp
    exact ⟨p, hp, by rw [er, hid p hp]⟩
end Go.Proofs.YtjdpbdadeeoplaaGreatDoor.hp
namespace Go.Proofs.YtjdpbdadeeoplaaGreatDoor.hp
open Go.RowKit rows heads words walks
set_option maxRecDepth 100000
set_option linter.unusedVariables false
set_option linter.unusedSimpArgs false

/-- A heap of the call's own in the block P. -/
structure HH (W : World) (P base : Nat) (vr vo vm vs : Value) (H : Hp) : Prop where
  nine : Nine W P 26 (.int .i64 H.half) (.int .i64 H.old) vr (.int .i64 H.side) (.int .i64 H.top) vo vm vs (.int .i64 H.seed)
  own : OwnH W base vr vo vm vs H
  np : P ∉ hblk vr vo vm vs
theorem HH.below {W W' : World} {P base : Nat} {vr vo vm vs : Value} {H : Hp} (h : HH W P base vr vo vm vs H) (hb : Below W.heap.size W W') : HH W' P base vr vo vm vs H := ⟨nine_below h.nine hb, ownH_below h.own hb, h.np⟩
theorem HH.ch {W W' : World} {P base : Nat} {vr vo vm vs : Value} {H : Hp} {S : List Nat} (h : HH W P base vr vo vm vs H) (hc : Ch S W W') (hP : P ∉ S) (hd : ∀ k ∈ hblk vr vo vm vs, k ∉ S) : HH W' P base vr vo vm vs H := ⟨nine_ch h.nine hc hP, ownH_ch h.own hc hd, h.np⟩
theorem nodup_blk (v : Value) : (blk v).Nodup := by
  unfold blk
  cases v.ownBlock <;> simp
theorem HH.of_ss {w W : World} {P base gr go gm cr co cm nr no nm : Nat} {vs vl : Value} {H : Hp} {os xs rs ms : List Int} (h : SS w W P base gr go gm cr co cm nr no nm vs vl H os xs rs ms) (d : Dst w P base gr go gm vs) : HH W P base (.slice (some ⟨gr, 0, none⟩) nr cr) (.slice (some ⟨go, 0, none⟩) no co) (.slice (some ⟨gm, 0, none⟩) nm cm) vs { H with row := xs, roots := rs, mourned := ms } := by
  have h1 := h.row
  have h2 := h.roots
  have h3 := h.mour
  have ho : OwnH W base (.slice (some ⟨gr, 0, none⟩) nr cr) (.slice (some ⟨go, 0, none⟩) no co) (.slice (some ⟨gm, 0, none⟩) nm cm) vs { H with row := xs, roots := rs, mourned := ms } := by
    refine ⟨⟨?_, ?_, ?_, h.seen⟩, ?_⟩
    · show World.ownsRow _ _ _ _ _ _ _
      rw [h.lr]; exact h1
    · show World.ownsRow _ _ _ _ _ _ _
      rw [h.lo]; exact h2
    · show World.ownsRow _ _ _ _ _ _ _
      rw [h.lm]; exact h3
    · unfold hblk
      rw [blk_of, blk_of, blk_of]
      have d1 := d.ro
      have d2 := d.rm
      have d3 := d.om
      have d4 := d.sr
      refine List.nodup_append.2 ⟨by simp; omega, nodup_blk vs, fun a ha b hb e => ?_⟩
      have := d4 b hb
      have ha' : a = gr ∨ a = go ∨ a = gm := by simpa using ha
      omega
  refine ⟨h.nine, ho, ?_⟩
  unfold hblk
  rw [blk_of, blk_of, blk_of]
  have d1 := d.pr
  have d2 := d.po
  have d3 := d.pm
  intro hm
  rcases List.mem_append.1 hm with hm | hm
  · have ha' : P = gr ∨ P = go ∨ P = gm := by simpa using hm
    omega
  · exact (d.sr P hm).2.2.2 rfl
theorem HH.mourn {W w10 : World} {P base : Nat} {vr vo vm vs v' : Value} {H : Hp} {x : Int} (h : HH W P base vr vo vm vs H) (hrow : rows.Own w10 base v' (H.mourned ++ [x])) (hC : Ch (blk vm) W w10) (hat : ∀ k ∈ blk v', k ∈ blk vm ∨ W.heap.size ≤ k) :
    w10.cell? ⟨P, 6, none⟩ = some vm ∧ w10.frozen? ⟨P, 6, none⟩ = false ∧ HH (w10.setCell ⟨P, 6, none⟩ v') P base vr vo v' vs { H with mourned := H.mourned ++ [x] } ∧ Ch (P :: blk vm) W (w10.setCell ⟨P, 6, none⟩ v') := by
  have npm : P ∉ blk vm := fun e => h.np (in_hblk.2.2.1 _ e)
  have N10 := nine_ch h.nine hC npm
  obtain ⟨_, ⟨_, z6, _, _⟩, zf⟩ := nine_cells N10
  have hl := ownH_lt h.own
  have hPl := lt_of_block h.nine
  obtain ⟨⟨A1, A2, A3⟩, ⟨B1, B2⟩, C1⟩ := hblk_apart h.own.2
  have O1 := one_ch w10 P 6 v'
  have npv : P ∉ blk v' := fun e => by
    rcases hat P e with e | e
    · exact npm e
    · omega
  have n1 : P ∉ blk vr := fun e => h.np (in_hblk.1 _ e)
  have n2 : P ∉ blk vo := fun e => h.np (in_hblk.2.1 _ e)
  have n4 : P ∉ blk vs := fun e => h.np (in_hblk.2.2.2 _ e)
  have ap : ∀ v : Value, (∀ k ∈ blk v, k ∉ blk vm) → (∀ k ∈ blk v, k < W.heap.size) → ∀ k ∈ blk v, k ∉ blk v' := fun v h1 h2 k hk e => by
    rcases hat k e with e | e
    · exact h1 k hk e
    · have := h2 k hk
      omega
  refine ⟨z6, zf 6, ⟨nine_set6 N10 v', ⟨⟨?_, ?_, ?_, ?_⟩, ?_⟩, ?_⟩, ?_⟩
  · exact row_ch (row_ch h.own.1.1 hC A2) O1 (fun k hk e => n1 ((List.mem_singleton.1 e) ▸ hk))
  · exact row_ch (row_ch h.own.1.2.1 hC B1) O1 (fun k hk e => n2 ((List.mem_singleton.1 e) ▸ hk))
  · exact row_ch hrow O1 (fun k hk e => npv ((List.mem_singleton.1 e) ▸ hk))
  · exact row_ch (row_ch h.own.1.2.2.2 hC (fun k hk e => C1 k e hk)) O1 (fun k hk e => n4 ((List.mem_singleton.1 e) ▸ hk))
  · have nd := h.own.2
    unfold hblk at nd ⊢
    simp only [List.nodup_append, List.mem_append] at nd ⊢
    obtain ⟨⟨⟨q1, q2, q3⟩, q4, q5⟩, q6, q7⟩ := nd
    have r1 := ap vr A2 (fun k hk => (hl k (in_hblk.1 _ hk)).2)
    have r2 := ap vo B1 (fun k hk => (hl k (in_hblk.2.1 _ hk)).2)
    have r4 := ap vs (fun k hk e => C1 k e hk) (fun k hk => (hl k (in_hblk.2.2.2 _ hk)).2)
    refine ⟨⟨⟨q1, q2, q3⟩, nodup_blk v', fun a ha b hb e => ?_⟩, q6, fun a ha b hb e => ?_⟩
    · subst e
      rcases ha with ha | ha
      · exact r1 a ha hb
      · exact r2 a ha hb
    · subst e
      rcases ha with ha | ha
      · exact q7 a (.inl ha) a hb rfl
      · exact r4 a hb ha
  · intro e
    unfold hblk at e
    simp only [List.mem_append] at e
    rcases e with ((e | e) | e) | e
    · exact n1 e
    · exact n2 e
    · exact npv e
    · exact n4 e
  · exact (hC.mono (fun k hk => List.mem_cons_of_mem _ hk)).trans (O1.mono (fun k hk => by simp at hk; simp [hk]))
/-- Only Mourned has moved, and into new memory if at all. -/
structure Moved (W0 W : World) (P : Nat) (vm0 vm : Value) : Prop where
  ch : Ch (P :: blk vm0) W0 W
  at' : ∀ k ∈ blk vm, k ∈ blk vm0 ∨ W0.heap.size ≤ k
theorem Moved.refl (W : World) (P : Nat) (vm : Value) : Moved W W P vm vm := ⟨Ch.refl _ _, fun k hk => .inl hk⟩
theorem Moved.below {W0 W W' : World} {P : Nat} {vm0 vm : Value} (h : Moved W0 W P vm0 vm) (hb : Below W.heap.size W W') : Moved W0 W' P vm0 vm := ⟨h.ch.trans (ch_below hb), h.at'⟩
theorem Moved.next {W0 W W' : World} {P : Nat} {vm0 vm v' : Value} (h : Moved W0 W P vm0 vm) (hc : Ch (P :: blk vm) W W') (hat : ∀ k ∈ blk v', k ∈ blk vm ∨ W.heap.size ≤ k) : Moved W0 W' P vm0 v' := by
  refine ⟨⟨hc.os.trans h.ch.os, hc.tape.trans h.ch.tape, hc.output.trans h.ch.output, Nat.le_trans h.ch.size hc.size, fun k hk hn => ?_⟩, fun k hk => ?_⟩
  · refine (hc.block k (Nat.lt_of_lt_of_le hk h.ch.size) (fun e => ?_)).trans (h.ch.block k hk hn)
    rcases List.mem_cons.1 e with e | e
    · exact hn (by simp [e])
    · rcases h.at' k e with e | e
      · exact hn (by simp [e])
      · omega
  · rcases hat k hk with e | e
    · exact h.at' k e
    · exact .inr (Nat.le_trans h.ch.size e)
/-- How far Mourned has grown. -/
def grvK (H : Hp) (R : gr.Gr) (k : Nat) : Hp := { H with row := grvP H (ordH H) (grvFs R) (ordH H).length, mourned := H.mourned ++ (grvMs H R).take k }
theorem grvK_zero (H : Hp) (R : gr.Gr) : grvK H R 0 = { H with row := grvP H (ordH H) (grvFs R) (ordH H).length, roots := H.roots, mourned := H.mourned } := by simp [grvK]
theorem grvK_end {H : Hp} {R : gr.Gr} {k : Nat} (h : (grvMs H R).length ≤ k) : grvK H R k = grvH H R := by unfold grvK grvH; rw [List.take_of_length_le h]
theorem grvMs_len (H : Hp) (R : gr.Gr) : (grvMs H R).length = R.mourned.length - H.mourned.length := by simp [grvMs]
theorem grvK_next {H : Hp} {R : gr.Gr} {k p : Nat} (hk : H.mourned.length + k < R.mourned.length) (hr : R.mourned.getD (H.mourned.length + k) gr.refD = (2, (p : Int) + 1)) : grvK H R (k + 1) = { grvK H R k with mourned := (grvK H R k).mourned ++ [4 * (ordH H).getD p 0 + 4] } := by
  unfold grvK
  have e : (grvMs H R)[k]? = some (4 * (ordH H).getD p 0 + 4) := by
    unfold grvMs
    rw [List.getElem?_map, List.getElem?_drop, List.getElem?_eq_getElem hk]
    rw [List.getD_eq_getElem?_getD, List.getElem?_eq_getElem hk, Option.getD_some] at hr
    rw [hr]
    show some (4 * (ordH H).getD ((p : Int) + 1 - 1).toNat 0 + 4) = _
    rw [show ((p : Int) + 1 - 1).toNat = p by omega]
  rw [List.take_add_one, e]
  simp [List.append_assoc]
end Go.Proofs.YtjdpbdadeeoplaaGreatDoor.hp
namespace Go.Proofs.YtjdpbdadeeoplaaGreatDoor.gr
open Go.RowKit rows heads
set_option maxRecDepth 100000
set_option linter.unusedVariables false

/-- Each keeps its Format or is plain. -/
def Fms (G R : Gr) : Prop := ∀ i, (R.objs.getD i obD).fmt = (G.objs.getD i obD).fmt ∨ (R.objs.getD i obD).fmt = 0
theorem fms_one {G : Gr} {p : Nat} (hp : p < G.objs.length) : Fms G (mourn1 G p) := fun i => by
  show ((plainAt G.objs p).getD i obD).fmt = _ ∨ _
  rw [plain_getD hp]
  split
  · exact .inr (by show ((plainAt G.objs p).getD i obD).fmt = 0; rw [plain_getD hp, if_pos (by assumption)])
  · exact .inl rfl
theorem Fms.trans {G R T : Gr} (h : Fms G R) (k : Fms R T) : Fms G T := fun i => by
  rcases k i with e | e
  · rcases h i with e2 | e2
    · exact .inl (e.trans e2)
    · exact .inr (e.trans e2)
  · exact .inr e
theorem fms_round : ∀ {ps : List Nat} {G : Gr}, (∀ p ∈ ps, p < G.objs.length) → Fms G (mournR G ps)
  | [], G, _ => fun i => .inl rfl
  | p :: ps, G, h => (fms_one (h p (by simp))).trans (fms_round (ps := ps) (fun q hq => by rw [mourn1_len]; exact h q (by simp [hq])))
theorem fms_rounds : ∀ {L : List (List Nat)} {G R : Gr}, Rounds L G R → Fms G R
  | [], G, R, h => by
    have e : R = G := h.2
    rw [e]; exact fun i => .inl rfl
  | ps :: L, G, R, h => by
    obtain ⟨h1, h2, h3⟩ := h
    exact (fms_round (fun p hp => grv_lt ((h2.2 p).1 hp))).trans (fms_rounds h3)
theorem mourns_fms {G R : Gr} (h : Mourns G R) : Fms G R := by
  obtain ⟨L, hL⟩ := h
  exact fms_rounds hL
theorem mourns_right {G R : Gr} (hr : Right G) (h : Mourns G R) : Right R := by
  obtain ⟨L, hL⟩ := h
  exact rounds_right hr hL
theorem held_chL {w w' : World} {base P : Nat} {G : Gr} {S : List Nat} (h : Held w base P G) (hc : Ch S w w') (hS : ∀ k ∈ S, k < base) : Held w' base P G := by
  obtain ⟨o, r, m, ms, T, O, N, hb⟩ := h
  exact ⟨o, r, m, ms, five_ch T hc (fun e => by have := hS P e; omega), ownG_ch O hc (fun k hk e => by have := (ownG_lt O k hk).1; have := hS k e; omega), N, hb⟩
theorem heldA_chL {w w' : World} {base P : Nat} {G : Gr} {S A : List Nat} (h : HeldA w base P G A) (hc : Ch S w w') (hS : ∀ k ∈ S, k < base) : HeldA w' base P G A := by
  obtain ⟨o, r, m, ms, T, O, N, hb, HS⟩ := h
  exact ⟨o, r, m, ms, five_ch T hc (fun e => by have := hS P e; omega), ownG_ch O hc (fun k hk e => by have := (ownG_lt O k hk).1; have := hS k e; omega), N, hb, HS⟩
theorem held_fmtAt {w : World} {base P : Nat} {G : Gr} (H : Held w base P G) {i : Nat} (hi : i < G.objs.length) : ∃ q0 c0, w.cell? ⟨P, 0, none⟩ = some (.slice (some ⟨q0, 0, none⟩) G.objs.length c0) ∧ w.cell? ⟨q0, i * 5 + 2, none⟩ = some (.int .i64 (G.objs.getD i obD).fmt) ∧ base ≤ q0 := by
  obtain ⟨q0, c0, r1, r2, r3, m1, m2, m3, ms, sa, sc, T, O, N, hb, him, _, _, _⟩ := held_obj H hi
  obtain ⟨z0, _, _, _, _, _⟩ := five_cells T
  have hq : q0 ∈ gblk (.slice (some ⟨q0, 0, none⟩) G.objs.length c0) (.slice r1 r2 r3) (.slice m1 m2 m3) ms := by simp only [gblk, List.mem_append]; exact .inl (.inl (.inl (by simp [blk_some])))
  have hidg : (ms.getD i moD).abs.fmt = (G.objs.getD i obD).fmt := by rw [← O.1, abs_getD]
  obtain ⟨⟨a0, c0', e, _, _, _, hco⟩, _⟩ := ownO_at O.2.1
  injection e with e4 e5 e6
  obtain ⟨b', off', e7, _, hcc⟩ := hco (by omega)
  have e8 := e4.trans e7
  injection e8 with e8
  injection e8 with e8 e9
  obtain ⟨_, _, y2, _, _⟩ := hcc i him
  rw [← e8, ← e9] at y2
  simp only [Nat.zero_add] at y2
  rw [← hidg]
  exact ⟨q0, c0, z0, y2, (ownG_lt O q0 hq).1⟩
theorem held_mour {w : World} {base P : Nat} {G : Gr} (H : Held w base P G) : ∃ a c, w.cell? ⟨P, 2, none⟩ = some (.slice a G.mourned.length c) ∧ base ≤ P ∧ P < w.heap.size ∧ (0 < G.mourned.length → ∃ b off, a = some ⟨b, off, none⟩ ∧ base ≤ b ∧ b < w.heap.size ∧ ∀ i, i < G.mourned.length → w.cell? ⟨b, off + i * 2, none⟩ = some (.int .i64 (G.mourned.getD i refD).1) ∧ w.cell? ⟨b, off + i * 2 + 1, none⟩ = some (.int .i64 (G.mourned.getD i refD).2)) := by
  obtain ⟨o, r, m, ms, T, O, N, hb⟩ := H
  obtain ⟨_, _, z2, _, _, _⟩ := five_cells T
  have hR := ownR_refs O.2.2.2.1
  have hl := blk_lt O.2.2.2.1
  obtain ⟨a, c, rfl, _, _, _, hc⟩ := hR
  refine ⟨a, c, z2, hb, lt_of_block T, fun h => ?_⟩
  obtain ⟨b, off, rfl, h1, h2⟩ := hc h
  exact ⟨b, off, rfl, (hl b (by simp [blk, Value.ownBlock])).1, h1, h2⟩
end Go.Proofs.YtjdpbdadeeoplaaGreatDoor.gr
namespace Go.Proofs.YtjdpbdadeeoplaaGreatDoor.hp
open Go.RowKit rows heads words walks
set_option maxRecDepth 100000
set_option linter.unusedVariables false

/-- append of one number onto a row of the call's own: what it does. -/
theorem run_app1I {w : World} {base : Nat} {v : Value} {es : List Int} {vb : Nat} {x : Int} (hown : rows.Own w base v es) (hvb : w.heap[vb]? = some (.cells #[.int .i64 x] 2 (0, 0))) (hl : es.length ≤ 1000000) (hbase : base ≤ w.heap.size) (ty : TypeId) :
    ∃ va vn vc w', (Builtin.append_ #[22, 22] ty #[v, .slice (some ⟨vb, 0, none⟩) 1 1]).run Tryz.prog w = .ok (.slice va vn vc) w' ∧ rows.Own w' base (.slice va vn vc) (es ++ [x]) ∧ Ch (blk v) w w' ∧ ∀ k ∈ blk (.slice va vn vc), k ∈ blk v ∨ w.heap.size ≤ k := by
  obtain ⟨i0, hi, hz0, hz1, hz2⟩ := info_parts info
  have F : Full w vb [x] := hvb
  obtain ⟨v', w', hr, h2, h3, _, h5⟩ := run_append_own_at (P := Tryz.prog) w base 22 ty 2 i0 (.int .i64 0) 1 8 Tryz.underlying22 hi hz0 hz1 hz2 rfl (by decide) v es.length (cellsOf es) hown ⟨vb, 0, none⟩ 1 1 (cellsOf [x]) (by simp) (ints_news (own_ints (full_own (base := 0) F (Nat.zero_le _) (show 1 ≤ maxLen by decide)))) (cellsI_one [x]) (by unfold maxLen; omega) (by omega) hbase
  have O' : rows.Own w' base v' (es ++ [x]) := by
    show World.ownsRow _ _ _ _ _ _ _
    rw [List.length_append, cellsI_append]
    exact h2
  obtain ⟨va, vn, vc, rfl⟩ := ints_slice (own_ints O')
  refine ⟨va, vn, vc, w', hr, O', ch_grown h3, fun k hk => ?_⟩
  unfold blk at hk ⊢
  rcases h5 with e | e
  · rw [e] at hk; exact .inl hk
  · rw [e] at hk; simp at hk; exact .inr (by omega)
theorem chG {S : List Nat} {w w' : World} (h : Ch S w w') : gr.Ch S w w' := ⟨h.os, h.tape, h.output, h.size, h.block⟩
/-- Where the Format changes it is plain then, and the head may stand. -/
theorem hok_plain {s f c h : Int} {p m : Bool} (hk : hok s f c h p m = true) (h6 : f ≠ 6) : hok s 0 c h p m = true := by
  unfold hok at hk ⊢
  rw [if_neg h6] at hk
  rw [if_neg (by decide)]
  simp only [Bool.and_eq_true] at hk
  simp [hk.1.1.2, hk.1.2, hk.2]
theorem pkd_pk {s f c h : Int} {p m : Bool} (hk : hok s f c h p m = true) : pkd s f c h p m = pk s f c h p m := by unfold pkd; rw [if_pos hk]
end Go.Proofs.YtjdpbdadeeoplaaGreatDoor.hp
namespace Go.Proofs.YtjdpbdadeeoplaaGreatDoor.hp
open Go.RowKit rows heads words walks region
set_option maxRecDepth 100000
set_option linter.unusedVariables false
set_option linter.unusedSimpArgs false

set_option maxHeartbeats 16000000 in
theorem l10Ref_any {w : World} {vr vo vm vs : Value} {H : Hp} (h : HpAt w vr vo vm vs H) {ps : List Int} (R : Rt H ps) {oa : Option Addr} {oc : Nat} {L : List Int} (hL : IntsAt w (.slice oa L.length oc) L) (hl : L.length ≤ 1000) (x : Int) (hx : wordIn H ps x = true) (ht : ∀ a, tgt H x = some a → a ∈ L) :
    Calls Tryz.prog 92 #[hpv H vr vo vm vs, .slice oa L.length oc, .int .i64 x] w fun e w' => e = .returned (gr.rv (refW H L x)) ∧ Below w.heap.size w w' := by
  obtain ⟨a1, c1, a2, c2, a3, c3, a4, c4, e1, e2, e3, e4⟩ := hpAt_slices h
  subst e1 e2 e3 e4
  have B1 : Below w.heap.size w ((w.alloc (hpb H (.slice a1 H.row.length c1) (.slice a2 H.roots.length c2) (.slice a3 H.mourned.length c3) (.slice a4 H.seen.length c4))).alloc (.cells #[.int .i64 0, .int .i64 0] 63)) := ((Below.refl _ _).alloc (Nat.le_refl _) _).alloc (by simp) _
  have HALL : Hid (∃ X, X = (w.alloc (hpb H (.slice a1 H.row.length c1) (.slice a2 H.roots.length c2) (.slice a3 H.mourned.length c3) (.slice a4 H.seen.length c4))).alloc (.cells #[.int .i64 0, .int .i64 0] 63) ∧ X.heap[w.heap.size]? = some (hpb H (.slice a1 H.row.length c1) (.slice a2 H.roots.length c2) (.slice a3 H.mourned.length c3) (.slice a4 H.seen.length c4)) ∧ X.heap[w.heap.size + 1]? = some (gr.rb (0, 0)) ∧ Below w.heap.size w X) := ⟨_, rfl, heap_alloc2_old _ _ _, heap_alloc2_new _ _ _, B1⟩
  have HFO : Hid (∀ V, Below w.heap.size w V → Calls Tryz.prog 91 #[hpv H (.slice a1 H.row.length c1) (.slice a2 H.roots.length c2) (.slice a3 H.mourned.length c3) (.slice a4 H.seen.length c4), .int .i64 x] V fun e w' => e = .returned (.int .i64 (fol H x)) ∧ Below V.heap.size V w') := fun V hV => l10Follow_any (hpAt_below h hV) R x hx
  have HL : Hid _ := hL
  have HTI : Hid (isI (fol H x) = true → refW H L x = (1, iv (fol H x))) := fun e => by unfold refW; rw [if_pos e]
  have HTN : Hid (isI (fol H x) = false → isA (fol H x) = false → refW H L x = (0, 0)) := fun e1 e2 => by unfold refW; rw [if_neg (by rw [e1]; decide), if_neg (by rw [e2]; decide)]
  have HTA : Hid (isI (fol H x) = false → isA (fol H x) = true → refW H L x = (2, (idxM L (av (fol H x)) : Int) + 1) ∧ av (fol H x) ∈ L) := fun e1 e2 => ⟨by unfold refW; rw [if_neg (by rw [e1]; decide), if_pos e2], ht _ (by unfold tgt; rw [if_pos e2])⟩
  clear B1 h R hL hx ht
  obtain ⟨E, hE⟩ : ∃ E, refW H L x = E := ⟨_, rfl⟩
  rw [hE] at HTI HTN HTA ⊢
  clear hE
  generalize fol H x = y at *
  go_enter Tryz.func92, Tryz.ntmps92
  go_upto_region 1 with fail
  obtain ⟨X, hX, q0, q1, BX⟩ := HALL.out
  rw [← hX]
  clear hX HALL
  have HBX : Hid _ := BX
  have HQ1 : Hid _ := q1
  obtain ⟨⟨z0, z1, z2, z3, z4⟩, ⟨z5, z6, z7, z8⟩, _⟩ := nine_cells q0
  have FO := HFO.out X BX
  clear HFO q0 q1 BX
  go_wp2_with fail
  refine FO.mono ?_
  clear FO z0 z1 z2 z3 z4 z5 z6 z7 z8
  rintro e w3 ⟨rfl, b3⟩
  have q3 := (b3.block _ (lt_of_block HQ1.out)).trans HQ1.out
  obtain ⟨r0, r1, rf⟩ := gr.rb_cells q3
  have rf0 := rf 0
  have rf1 := rf 1
  have HQ3 : Hid _ := q3
  have HB3 : Hid _ := HBX.out.trans (b3.mono HBX.out.size)
  clear b3 q3 rf HBX HQ1
  have SI := sIntOf_any y
  cases dI : isI y
  · rw [dI] at SI
    have SA := sAddrOf_any y
    cases dA : isA y
    · rw [dA] at SA
      have HE : Hid _ := HTN.out dI dA
      clear dI dA HTI HTN HTA
      go_wp2_with (first
        | (go_at_call 140; refine (SI _).mono ?_; clear SI; rintro e w4 ⟨rfl, hw4⟩; rw [hw4]; clear hw4 w4)
        | (go_at_call 87; refine (SA _).mono ?_; clear SA; rintro e w4 ⟨rfl, hw4⟩; rw [hw4]; clear hw4 w4))
      exact bodyPost_ret (gr.res_rf rfl rfl (gr.rb_set HQ3.out 0 0)) rfl ⟨by rw [HE.out], (HB3.out.setCell (p := ⟨w.heap.size + 1, 0, none⟩) (Nat.le_succ _) _).setCell (p := ⟨w.heap.size + 1, 1, none⟩) (Nat.le_succ _) _⟩
    · rw [dA] at SA
      obtain ⟨hE, hm⟩ := HTA.out dI dA
      have HE : Hid _ := hE
      have HM : Hid _ := hm
      clear dI dA HTI HTN HTA hE hm
      generalize av y = a at *
      go_wp2_with (first
        | (go_at_call 140; refine (SI _).mono ?_; clear SI; rintro e w4 ⟨rfl, hw4⟩; rw [hw4]; clear hw4 w4)
        | (go_at_call 87; refine (SA _).mono ?_; clear SA; rintro e w4 ⟨rfl, hw4⟩; rw [hw4]; clear hw4 w4))
      go_loopw [11] (fun q wz => ∃ k : Nat, k ≤ L.length ∧ q = .int .i64 (k : Int) ∧ (∀ t, t < k → L.getD t 0 ≠ a) ∧ wz = w3) (fun q _ => L.length - (intOf q).toNat)
      case atStart => exact ⟨0, Nat.zero_le _, rfl, fun t ht => by omega, rfl⟩
      case round =>
        obtain ⟨k, hk, rfl, hne, rfl⟩ := hrel
        have hlt : k < L.length := by
          rcases Nat.lt_or_ge k L.length with h | h
          · exact h
          · obtain ⟨t, ht, et⟩ := List.getElem_of_mem HM.out
            exact absurd (by rw [List.getD_eq_getElem?_getD, List.getElem?_eq_getElem ht]; exact et) (hne t (by omega))
        obtain ⟨lb, lo, ea, hlb, x0⟩ := ints_cell (intsAt_below HL.out HB3.out) hlt
        subst ea
        have hlt' : (k : Int) < (L.length : Int) := by omega
        by_cases hka : L.getD k 0 = a
        · have HI : Hid _ := idxM_at hlt hka hne
          rw [hka] at x0
          have hka' : (a != a) = false := by simp
          clear hne hka
          go_wp2_with fail
          exact bodyPost_ret (gr.res_rf rfl rfl (gr.rb_set HQ3.out 2 ((k : Int) + 1))) rfl ⟨by rw [HE.out, HI.out], (HB3.out.setCell (p := ⟨w.heap.size + 1, 0, none⟩) (Nat.le_succ _) _).setCell (p := ⟨w.heap.size + 1, 1, none⟩) (Nat.le_succ _) _⟩
        · have HNE : Hid (∀ t, t < k + 1 → L.getD t 0 ≠ a) := fun t ht => by
            by_cases e : t = k
            · rw [e]; exact hka
            · exact hne t (by omega)
          have hka' : (L.getD k 0 != a) = true := by simpa using hka
          generalize L.getD k 0 = b at *
          clear hne
          go_wp2
          exact ⟨⟨k + 1, by omega, by go_num, HNE.out, by first | rfl | trivial⟩, by simp [intOf]; omega⟩
  · rw [dI] at SI
    have HE : Hid _ := HTI.out dI
    clear dI HTI HTN HTA
    generalize iv y = n at *
    go_wp2_with (go_at_call 140; refine (SI _).mono ?_; clear SI; rintro e w4 ⟨rfl, hw4⟩; rw [hw4]; clear hw4 w4)
    exact bodyPost_ret (gr.res_rf rfl rfl (gr.rb_set HQ3.out 1 n)) rfl ⟨by rw [HE.out], (HB3.out.setCell (p := ⟨w.heap.size + 1, 0, none⟩) (Nat.le_succ _) _).setCell (p := ⟨w.heap.size + 1, 1, none⟩) (Nat.le_succ _) _⟩
end Go.Proofs.YtjdpbdadeeoplaaGreatDoor.hp
namespace Go.Proofs.YtjdpbdadeeoplaaGreatDoor.hp
open Go.RowKit rows heads words walks
set_option maxRecDepth 100000
set_option linter.unusedVariables false

/-- What Grieved answers. -/
def grvOk (H : Hp) (R : gr.Gr) : Hp := if heapOk H = true then grvH H R else hp0
theorem grvOk_size {H : Hp} {R : gr.Gr} (hM : heapOk H = true → gr.Mourns (grS H (ordH H)) R) (hs : hpSize H ≤ 1048576) : hpSize (grvOk H R) ≤ 1048576 := by
  unfold grvOk
  split
  · rename_i h
    obtain ⟨ps, RR⟩ := rt_of (ok_right h).1
    have hR40 : R.mourned.length ≤ 40 := (gr.head_parts (gr.mourns_right (grS_right RR) (hM h)).head).2.2.1
    have hrl := RR.len
    have hdl := grvP_len H (ordH H) (grvFs R) (ordH H).length
    obtain ⟨N, _, r, u, _, hu, _, e⟩ := places_facts RR.some'
    have hl := (places_plc RR.some').2
    rw [e, List.length_append] at hl
    have hm40 := N.mourned
    have hr6 := N.roots
    have hml := grvMs_len H R
    have hsn : H.seen.length ≤ 500 := by
      rw [(ok_right h).2]
      unfold seenL
      rw [hu, Option.getD_some]
      exact Nat.le_trans (List.length_filter_le _ _) (by omega)
    show (grvP H (ordH H) (grvFs R) (ordH H).length).length + H.roots.length + (H.mourned ++ grvMs H R).length + H.seen.length ≤ _
    rw [List.length_append]
    omega
  · exact Nat.zero_le _
theorem mourns_some {H : Hp} : ∃ R, heapOk H = true → gr.Mourns (grS H (ordH H)) R := by
  by_cases h : heapOk H = true
  · obtain ⟨ps, RR⟩ := rt_of (ok_right h).1
    obtain ⟨R, hR⟩ := gr.mourns_ex _ (grS_right RR) (Nat.le_refl _)
    exact ⟨R, fun _ => hR⟩
  · exact ⟨grS H (ordH H), fun e => absurd e h⟩
end Go.Proofs.YtjdpbdadeeoplaaGreatDoor.hp
namespace Go.Proofs.YtjdpbdadeeoplaaGreatDoor.hp
open Go.RowKit rows heads words walks
set_option maxRecDepth 100000
set_option linter.unusedVariables false
set_option linter.unusedSimpArgs false

/-- Three heaps in blocks behind one another: what came, what is answered, what is made. -/
structure CpS (w W : World) (H : Hp) (vr vo vm vs c2 c5 c6 c7 : Value) : Prop where
  n0 : Nine W w.heap.size 26 (.int .i64 H.half) (.int .i64 H.old) vr (.int .i64 H.side) (.int .i64 H.top) vo vm vs (.int .i64 H.seed)
  n1 : Nine W (w.heap.size + 1) 26 (.int .i64 0) (.int .i64 0) (.slice none 0 0) (.int .i64 0) (.int .i64 0) (.slice none 0 0) (.slice none 0 0) (.slice none 0 0) (.int .i64 0)
  n2 : Nine W (w.heap.size + 2) 26 (.int .i64 H.half) (.int .i64 H.old) c2 (.int .i64 H.side) (.int .i64 H.top) c5 c6 c7 (.int .i64 H.seed)
  below : Below w.heap.size w W
  size : w.heap.size + 3 ≤ W.heap.size
theorem CpS.grow {w W W' : World} {H : Hp} {vr vo vm vs c2 c5 c6 c7 : Value} (h : CpS w W H vr vo vm vs c2 c5 c6 c7) (hb : Below W.heap.size W W') : CpS w W' H vr vo vm vs c2 c5 c6 c7 := ⟨nine_below h.n0 hb, nine_below h.n1 hb, nine_below h.n2 hb, h.below.trans (hb.mono h.below.size), Nat.le_trans h.size hb.size⟩
theorem CpS.fields {w W : World} {H : Hp} {vr vo vm vs c2 c5 c6 c7 : Value} (h : CpS w W H vr vo vm vs c2 c5 c6 c7) {W' : World} {d2 d5 d6 d7 : Value} (hc : Ch [w.heap.size + 2] W W') (h2 : Nine W' (w.heap.size + 2) 26 (.int .i64 H.half) (.int .i64 H.old) d2 (.int .i64 H.side) (.int .i64 H.top) d5 d6 d7 (.int .i64 H.seed)) : CpS w W' H vr vo vm vs d2 d5 d6 d7 :=
  ⟨nine_ch h.n0 hc (by simp), nine_ch h.n1 hc (by simp), h2, h.below.trans (below_ch hc h.below.size (fun k hk => by simp at hk; omega)), Nat.le_trans h.size hc.size⟩
theorem own_set {W : World} {base b k : Nat} {v u : Value} {xs : List Int} (h : rows.Own W base v xs) (hb : b < base) : rows.Own (W.setCell ⟨b, k, none⟩ u) base v xs := row_ch (S := [b]) h (one_ch _ _ _ _) (fun j hj => by have := (blk_lt h j hj).1; simp; omega)
set_option maxHeartbeats 16000000 in
theorem l9Copy_any {w : World} {vr vo vm vs : Value} {H : Hp} (h : HpAt w vr vo vm vs H) (hs : hpSize H ≤ 1048576) :
    Calls Tryz.prog 16 #[hpv H vr vo vm vs] w fun e w' => ∃ g1 g2 g3 k1 k2 k3 s', e = .returned (hpv H (.slice (some ⟨g1, 0, none⟩) H.row.length k1) (.slice (some ⟨g2, 0, none⟩) H.roots.length k2) (.slice (some ⟨g3, 0, none⟩) H.mourned.length k3) s') ∧ OwnH w' w.heap.size (.slice (some ⟨g1, 0, none⟩) H.row.length k1) (.slice (some ⟨g2, 0, none⟩) H.roots.length k2) (.slice (some ⟨g3, 0, none⟩) H.mourned.length k3) s' H ∧ Below w.heap.size w w' := by
  obtain ⟨a1, c1, a2, c2, a3, c3, a4, c4, e1, e2, e3, e4⟩ := hpAt_slices h
  subst e1 e2 e3 e4
  have l1 : H.row.length ≤ 1048576 := by unfold hpSize at hs; omega
  have l2 : H.roots.length ≤ 1048576 := by unfold hpSize at hs; omega
  have l3 : H.mourned.length ≤ 1048576 := by unfold hpSize at hs; omega
  have l4 : H.seen.length ≤ 1048576 := by unfold hpSize at hs; omega
  have HH : Hid _ := h
  have B0 : Below w.heap.size w (w.alloc (hpb H (.slice a1 H.row.length c1) (.slice a2 H.roots.length c2) (.slice a3 H.mourned.length c3) (.slice a4 H.seen.length c4))) := (Below.refl _ _).alloc (Nat.le_refl _) _
  have B1 := B0.alloc B0.size (hpb ⟨0, 0, [], 0, 0, [], [], [], 0⟩ (.slice none 0 0) (.slice none 0 0) (.slice none 0 0) (.slice none 0 0))
  have T0 := nine_new w H (.slice a1 H.row.length c1) (.slice a2 H.roots.length c2) (.slice a3 H.mourned.length c3) (.slice a4 H.seen.length c4)
  have T0' := nine_below T0 ((Below.refl _ _).alloc (Nat.le_refl _) (hpb ⟨0, 0, [], 0, 0, [], [], [], 0⟩ (.slice none 0 0) (.slice none 0 0) (.slice none 0 0) (.slice none 0 0)))
  have T1 : Nine ((w.alloc (hpb H (.slice a1 H.row.length c1) (.slice a2 H.roots.length c2) (.slice a3 H.mourned.length c3) (.slice a4 H.seen.length c4))).alloc (hpb ⟨0, 0, [], 0, 0, [], [], [], 0⟩ (.slice none 0 0) (.slice none 0 0) (.slice none 0 0) (.slice none 0 0))) (w.heap.size + 1) 26 (.int .i64 0) (.int .i64 0) (.slice none 0 0) (.int .i64 0) (.int .i64 0) (.slice none 0 0) (.slice none 0 0) (.slice none 0 0) (.int .i64 0) := (congrArg (fun k => ((w.alloc (hpb H (.slice a1 H.row.length c1) (.slice a2 H.roots.length c2) (.slice a3 H.mourned.length c3) (.slice a4 H.seen.length c4))).alloc (hpb ⟨0, 0, [], 0, 0, [], [], [], 0⟩ (.slice none 0 0) (.slice none 0 0) (.slice none 0 0) (.slice none 0 0))).heap[k]?) (show w.heap.size + 1 = (w.alloc (hpb H (.slice a1 H.row.length c1) (.slice a2 H.roots.length c2) (.slice a3 H.mourned.length c3) (.slice a4 H.seen.length c4))).heap.size by simp)).trans (heap_alloc_new _ _)
  have HB1 : Hid _ := B1
  have HT0 : Hid _ := T0'
  have HT1 : Hid _ := T1
  have sX : w.heap.size + 2 = ((w.alloc (hpb H (.slice a1 H.row.length c1) (.slice a2 H.roots.length c2) (.slice a3 H.mourned.length c3) (.slice a4 H.seen.length c4))).alloc (hpb ⟨0, 0, [], 0, 0, [], [], [], 0⟩ (.slice none 0 0) (.slice none 0 0) (.slice none 0 0) (.slice none 0 0))).heap.size := by simp
  clear h B0 B1 T0 T0' T1 hs
  go_enter Tryz.func16, Tryz.ntmps16
  go_upto_region 1 with fail
  generalize hX : (w.alloc _).alloc _ = X at *
  have HsX : Hid _ := sX
  clear hX sX
  obtain ⟨⟨z0, z1, z2, z3, z4⟩, ⟨z5, z6, z7, z8⟩, _⟩ := nine_cells HT0.out
  go_upto_region 2 with fail
  have BX : Below X.heap.size X (X.alloc (hpb H (.slice a1 H.row.length c1) (.slice a2 H.roots.length c2) (.slice a3 H.mourned.length c3) (.slice a4 H.seen.length c4))) := (Below.refl _ _).alloc (Nat.le_refl _) _
  have HS0 : Hid (CpS w (X.alloc (hpb H (.slice a1 H.row.length c1) (.slice a2 H.roots.length c2) (.slice a3 H.mourned.length c3) (.slice a4 H.seen.length c4))) H (.slice a1 H.row.length c1) (.slice a2 H.roots.length c2) (.slice a3 H.mourned.length c3) (.slice a4 H.seen.length c4) (.slice a1 H.row.length c1) (.slice a2 H.roots.length c2) (.slice a3 H.mourned.length c3) (.slice a4 H.seen.length c4)) := ⟨nine_below HT0.out BX, nine_below HT1.out BX, by rw [HsX.out]; exact heap_alloc_new _ _, HB1.out.trans (BX.mono HB1.out.size), by have := HsX.out; simp; omega⟩
  clear BX z0 z1 z2 z3 z4 z5 z6 z7 z8 HT0 HT1 HB1
  have hXs : X.heap.size = w.heap.size + 2 := HsX.out.symm
  rw [hXs]
  generalize X.alloc (hpb H (.slice a1 H.row.length c1) (.slice a2 H.roots.length c2) (.slice a3 H.mourned.length c3) (.slice a4 H.seen.length c4)) = W at *
  clear hXs HsX
  have BA : Below W.heap.size W (W.alloc (.cells #[] 2)) := (Below.refl _ _).alloc (Nat.le_refl _) _
  obtain ⟨⟨z0, z1, z2, z3, z4⟩, ⟨z5, z6, z7, z8⟩, _⟩ := nine_cells (HS0.out.grow BA).n0
  have IN := intsAt_below HH.out.1 HS0.out.below
  clear BA
  go_upto_region 3 with (at_builtin; refine wpList_copied IN l1 rfl _ _ rfl (by simp [Act.eval]) rfl ?_; intro g1 k1 w11 hg hO hB; have HOA : Hid (rows.Own w11 W.heap.size (.slice (some ⟨g1, 0, none⟩) H.row.length k1) H.row) := hO; have HB : Hid _ := hB; obtain ⟨⟨y0, y1, y2, y3, y4⟩, ⟨y5, y6, y7, y8⟩, yf⟩ := nine_cells (HS0.out.grow hB).n2; have f2 := yf 2; clear hO hB yf z0 z1 z2 z3 z4 z5 z6 z7 z8 IN)
  have HS1 : Hid (CpS w (w11.setCell ⟨w.heap.size + 2, 2, none⟩ (.slice (some ⟨g1, 0, none⟩) H.row.length k1)) H (.slice a1 H.row.length c1) (.slice a2 H.roots.length c2) (.slice a3 H.mourned.length c3) (.slice a4 H.seen.length c4) (.slice (some ⟨g1, 0, none⟩) H.row.length k1) (.slice a2 H.roots.length c2) (.slice a3 H.mourned.length c3) (.slice a4 H.seen.length c4)) := (HS0.out.grow HB.out).fields (one_ch _ _ _ _) (nine_set2 (HS0.out.grow HB.out).n2 _)
  have HO1 : Hid (rows.Own (w11.setCell ⟨w.heap.size + 2, 2, none⟩ (.slice (some ⟨g1, 0, none⟩) H.row.length k1)) (w.heap.size + 3) (.slice (some ⟨g1, 0, none⟩) H.row.length k1) H.row) := own_set (own_base HOA.out HS0.out.size) (by omega)
  clear HOA HB hg y0 y1 y2 y3 y4 y5 y6 y7 y8 HS0 f2
  generalize w11.setCell ⟨w.heap.size + 2, 2, none⟩ (.slice (some ⟨g1, 0, none⟩) H.row.length k1) = V1 at *
  have HL1 : Hid (g1 < V1.heap.size) := (own_lt HO1.out g1 rfl).2
  have BA : Below V1.heap.size V1 (V1.alloc (.cells #[] 2)) := (Below.refl _ _).alloc (Nat.le_refl _) _
  obtain ⟨⟨z0, z1, z2, z3, z4⟩, ⟨z5, z6, z7, z8⟩, _⟩ := nine_cells (HS1.out.grow BA).n0
  have IN := intsAt_below HH.out.2.1 HS1.out.below
  clear BA
  go_upto_region 4 with (at_builtin; refine wpList_copied IN l2 rfl _ _ rfl (by simp [Act.eval]) rfl ?_; intro g2 k2 w12 hg hO hB; have HOA : Hid (rows.Own w12 V1.heap.size (.slice (some ⟨g2, 0, none⟩) H.roots.length k2) H.roots) := hO; have HB : Hid _ := hB; obtain ⟨⟨y0, y1, y2, y3, y4⟩, ⟨y5, y6, y7, y8⟩, yf⟩ := nine_cells (HS1.out.grow hB).n2; have f5 := yf 5; clear hO hB yf z0 z1 z2 z3 z4 z5 z6 z7 z8 IN)
  have HS2 : Hid (CpS w (w12.setCell ⟨w.heap.size + 2, 5, none⟩ (.slice (some ⟨g2, 0, none⟩) H.roots.length k2)) H (.slice a1 H.row.length c1) (.slice a2 H.roots.length c2) (.slice a3 H.mourned.length c3) (.slice a4 H.seen.length c4) (.slice (some ⟨g1, 0, none⟩) H.row.length k1) (.slice (some ⟨g2, 0, none⟩) H.roots.length k2) (.slice a3 H.mourned.length c3) (.slice a4 H.seen.length c4)) := (HS1.out.grow HB.out).fields (one_ch _ _ _ _) (nine_set5 (HS1.out.grow HB.out).n2 _)
  have HO2 : Hid (rows.Own (w12.setCell ⟨w.heap.size + 2, 5, none⟩ (.slice (some ⟨g2, 0, none⟩) H.roots.length k2)) (w.heap.size + 3) (.slice (some ⟨g2, 0, none⟩) H.roots.length k2) H.roots) := own_set (own_base HOA.out HS1.out.size) (by omega)
  have HO1 : Hid (rows.Own (w12.setCell ⟨w.heap.size + 2, 5, none⟩ (.slice (some ⟨g2, 0, none⟩) H.roots.length k2)) (w.heap.size + 3) (.slice (some ⟨g1, 0, none⟩) H.row.length k1) H.row) := own_set (own_below HO1.out HB.out) (by omega)
  have HD12 : Hid (g1 < g2) := Nat.lt_of_lt_of_le HL1.out hg
  clear HOA HB hg y0 y1 y2 y3 y4 y5 y6 y7 y8 HS1 f5
  generalize w12.setCell ⟨w.heap.size + 2, 5, none⟩ (.slice (some ⟨g2, 0, none⟩) H.roots.length k2) = V2 at *
  have HL1 : Hid (g1 < V2.heap.size) := (own_lt HO1.out g1 rfl).2
  have HL2 : Hid (g2 < V2.heap.size) := (own_lt HO2.out g2 rfl).2
  have BA : Below V2.heap.size V2 (V2.alloc (.cells #[] 2)) := (Below.refl _ _).alloc (Nat.le_refl _) _
  obtain ⟨⟨z0, z1, z2, z3, z4⟩, ⟨z5, z6, z7, z8⟩, _⟩ := nine_cells (HS2.out.grow BA).n0
  have IN := intsAt_below HH.out.2.2.1 HS2.out.below
  clear BA
  go_upto_region 5 with (at_builtin; refine wpList_copied IN l3 rfl _ _ rfl (by simp [Act.eval]) rfl ?_; intro g3 k3 w13 hg hO hB; have HOA : Hid (rows.Own w13 V2.heap.size (.slice (some ⟨g3, 0, none⟩) H.mourned.length k3) H.mourned) := hO; have HB : Hid _ := hB; obtain ⟨⟨y0, y1, y2, y3, y4⟩, ⟨y5, y6, y7, y8⟩, yf⟩ := nine_cells (HS2.out.grow hB).n2; have f6 := yf 6; clear hO hB yf z0 z1 z2 z3 z4 z5 z6 z7 z8 IN)
  have HS3 : Hid (CpS w (w13.setCell ⟨w.heap.size + 2, 6, none⟩ (.slice (some ⟨g3, 0, none⟩) H.mourned.length k3)) H (.slice a1 H.row.length c1) (.slice a2 H.roots.length c2) (.slice a3 H.mourned.length c3) (.slice a4 H.seen.length c4) (.slice (some ⟨g1, 0, none⟩) H.row.length k1) (.slice (some ⟨g2, 0, none⟩) H.roots.length k2) (.slice (some ⟨g3, 0, none⟩) H.mourned.length k3) (.slice a4 H.seen.length c4)) := (HS2.out.grow HB.out).fields (one_ch _ _ _ _) (nine_set6 (HS2.out.grow HB.out).n2 _)
  have HO3 : Hid (rows.Own (w13.setCell ⟨w.heap.size + 2, 6, none⟩ (.slice (some ⟨g3, 0, none⟩) H.mourned.length k3)) (w.heap.size + 3) (.slice (some ⟨g3, 0, none⟩) H.mourned.length k3) H.mourned) := own_set (own_base HOA.out HS2.out.size) (by omega)
  have HO1 : Hid (rows.Own (w13.setCell ⟨w.heap.size + 2, 6, none⟩ (.slice (some ⟨g3, 0, none⟩) H.mourned.length k3)) (w.heap.size + 3) (.slice (some ⟨g1, 0, none⟩) H.row.length k1) H.row) := own_set (own_below HO1.out HB.out) (by omega)
  have HD13 : Hid (g1 < g3) := Nat.lt_of_lt_of_le HL1.out hg
  have HO2 : Hid (rows.Own (w13.setCell ⟨w.heap.size + 2, 6, none⟩ (.slice (some ⟨g3, 0, none⟩) H.mourned.length k3)) (w.heap.size + 3) (.slice (some ⟨g2, 0, none⟩) H.roots.length k2) H.roots) := own_set (own_below HO2.out HB.out) (by omega)
  have HD23 : Hid (g2 < g3) := Nat.lt_of_lt_of_le HL2.out hg
  clear HOA HB hg y0 y1 y2 y3 y4 y5 y6 y7 y8 HS2 f6
  generalize w13.setCell ⟨w.heap.size + 2, 6, none⟩ (.slice (some ⟨g3, 0, none⟩) H.mourned.length k3) = V3 at *
  have HL1 : Hid (g1 < V3.heap.size) := (own_lt HO1.out g1 rfl).2
  have HL2 : Hid (g2 < V3.heap.size) := (own_lt HO2.out g2 rfl).2
  have HL3 : Hid (g3 < V3.heap.size) := (own_lt HO3.out g3 rfl).2
  have BA : Below V3.heap.size V3 (V3.alloc (.cells #[] 2)) := (Below.refl _ _).alloc (Nat.le_refl _) _
  obtain ⟨⟨z0, z1, z2, z3, z4⟩, ⟨z5, z6, z7, z8⟩, _⟩ := nine_cells (HS3.out.grow BA).n0
  have IN := intsAt_below HH.out.2.2.2 HS3.out.below
  clear BA
  go_upto_region 6 with (at_builtin; refine wpList_copied IN l4 rfl _ _ rfl (by simp [Act.eval]) rfl ?_; intro g4 k4 w14 hg hO hB; have HOA : Hid (rows.Own w14 V3.heap.size (.slice (some ⟨g4, 0, none⟩) H.seen.length k4) H.seen) := hO; have HB : Hid _ := hB; obtain ⟨⟨y0, y1, y2, y3, y4⟩, ⟨y5, y6, y7, y8⟩, yf⟩ := nine_cells (HS3.out.grow hB).n2; have f7 := yf 7; clear hO hB yf z0 z1 z2 z3 z4 z5 z6 z7 z8 IN)
  have HS4 : Hid (CpS w (w14.setCell ⟨w.heap.size + 2, 7, none⟩ (.slice (some ⟨g4, 0, none⟩) H.seen.length k4)) H (.slice a1 H.row.length c1) (.slice a2 H.roots.length c2) (.slice a3 H.mourned.length c3) (.slice a4 H.seen.length c4) (.slice (some ⟨g1, 0, none⟩) H.row.length k1) (.slice (some ⟨g2, 0, none⟩) H.roots.length k2) (.slice (some ⟨g3, 0, none⟩) H.mourned.length k3) (.slice (some ⟨g4, 0, none⟩) H.seen.length k4)) := (HS3.out.grow HB.out).fields (one_ch _ _ _ _) (nine_set7 (HS3.out.grow HB.out).n2 _)
  have HO4 : Hid (rows.Own (w14.setCell ⟨w.heap.size + 2, 7, none⟩ (.slice (some ⟨g4, 0, none⟩) H.seen.length k4)) (w.heap.size + 3) (.slice (some ⟨g4, 0, none⟩) H.seen.length k4) H.seen) := own_set (own_base HOA.out HS3.out.size) (by omega)
  have HO1 : Hid (rows.Own (w14.setCell ⟨w.heap.size + 2, 7, none⟩ (.slice (some ⟨g4, 0, none⟩) H.seen.length k4)) (w.heap.size + 3) (.slice (some ⟨g1, 0, none⟩) H.row.length k1) H.row) := own_set (own_below HO1.out HB.out) (by omega)
  have HD14 : Hid (g1 < g4) := Nat.lt_of_lt_of_le HL1.out hg
  have HO2 : Hid (rows.Own (w14.setCell ⟨w.heap.size + 2, 7, none⟩ (.slice (some ⟨g4, 0, none⟩) H.seen.length k4)) (w.heap.size + 3) (.slice (some ⟨g2, 0, none⟩) H.roots.length k2) H.roots) := own_set (own_below HO2.out HB.out) (by omega)
  have HD24 : Hid (g2 < g4) := Nat.lt_of_lt_of_le HL2.out hg
  have HO3 : Hid (rows.Own (w14.setCell ⟨w.heap.size + 2, 7, none⟩ (.slice (some ⟨g4, 0, none⟩) H.seen.length k4)) (w.heap.size + 3) (.slice (some ⟨g3, 0, none⟩) H.mourned.length k3) H.mourned) := own_set (own_below HO3.out HB.out) (by omega)
  have HD34 : Hid (g3 < g4) := Nat.lt_of_lt_of_le HL3.out hg
  clear HOA HB hg y0 y1 y2 y3 y4 y5 y6 y7 y8 HS3 f7
  generalize w14.setCell ⟨w.heap.size + 2, 7, none⟩ (.slice (some ⟨g4, 0, none⟩) H.seen.length k4) = V4 at *
  have HL1 : Hid (g1 < V4.heap.size) := (own_lt HO1.out g1 rfl).2
  have HL2 : Hid (g2 < V4.heap.size) := (own_lt HO2.out g2 rfl).2
  have HL3 : Hid (g3 < V4.heap.size) := (own_lt HO3.out g3 rfl).2
  have HL4 : Hid (g4 < V4.heap.size) := (own_lt HO4.out g4 rfl).2
  obtain ⟨⟨z0, z1, z2, z3, z4⟩, ⟨z5, z6, z7, z8⟩, _⟩ := nine_cells HS4.out.n2
  obtain ⟨⟨y0, y1, y2, y3, y4⟩, ⟨y5, y6, y7, y8⟩, yf⟩ := nine_cells HS4.out.n1
  have f0 := yf 0
  have f1 := yf 1
  have f2 := yf 2
  have f3 := yf 3
  have f4 := yf 4
  have f5 := yf 5
  have f6 := yf 6
  have f7 := yf 7
  have f8 := yf 8
  clear yf
  have HB4 : Hid _ := HS4.out.below
  have HN1 : Hid _ := HS4.out.n1
  clear HS4
  go_wp2_with fail
  refine bodyPost_ret (res_heap rfl rfl (nine_sets HN1.out _ _ _ _ _ _ _ _ _)) rfl ⟨_, _, _, _, _, _, _, rfl, ⟨⟨?_, ?_, ?_, ?_⟩, ?_⟩, nine_belows HB4.out (by omega) _ _ _ _ _ _ _ _ _⟩
  · exact own_base (row_ch (S := [w.heap.size + 1]) HO1.out (nine_other _ _ _ _ _ _ _ _ _) (fun j hj => by have := (blk_lt HO1.out j hj).1; simp; omega)) (by omega)
  · exact own_base (row_ch (S := [w.heap.size + 1]) HO2.out (nine_other _ _ _ _ _ _ _ _ _) (fun j hj => by have := (blk_lt HO2.out j hj).1; simp; omega)) (by omega)
  · exact own_base (row_ch (S := [w.heap.size + 1]) HO3.out (nine_other _ _ _ _ _ _ _ _ _) (fun j hj => by have := (blk_lt HO3.out j hj).1; simp; omega)) (by omega)
  · exact own_base (row_ch (S := [w.heap.size + 1]) HO4.out (nine_other _ _ _ _ _ _ _ _ _) (fun j hj => by have := (blk_lt HO4.out j hj).1; simp; omega)) (by omega)
  · have q12 := HD12.out
    have q13 := HD13.out
    have q14 := HD14.out
    have q23 := HD23.out
    have q24 := HD24.out
    have q34 := HD34.out
    simp [hblk, blk, Value.ownBlock]
    omega
end Go.Proofs.YtjdpbdadeeoplaaGreatDoor.hp
namespace Go.Proofs.YtjdpbdadeeoplaaGreatDoor.hp
open Go.RowKit rows heads words walks
set_option maxRecDepth 100000
set_option linter.unusedVariables false
set_option linter.unusedSimpArgs false

set_option maxHeartbeats 4000000 in
theorem note_any {w : World} {s f c h : Int} {p m : Bool} {sa : Option Addr} {sn sc : Nat} {xs : List Int} (hx : 0 < xs.length)
    (hS : ∀ V, Below w.heap.size w V → Calls Tryz.prog 71 #[cv s f c h p m (.slice sa sn sc)] V fun e w' => ∃ ua un uc, e = .returned (.slice ua un uc) ∧ IntsAt w' (.slice ua un uc) xs ∧ Below V.heap.size V w') :
    Calls Tryz.prog 153 #[cv s f c h p m (.slice sa sn sc)] w fun e w' => e = .returned (.int .i64 (xs.getD 0 0)) ∧ Below w.heap.size w w' := by
  obtain ⟨y, hy⟩ : ∃ y, xs.getD 0 0 = y := ⟨_, rfl⟩
  rw [hy]
  have HYY : Hid _ := hy
  clear hy
  have B0 : Below w.heap.size w (w.alloc (cb s f c h p m (.slice sa sn sc))) := (Below.refl _ _).alloc (Nat.le_refl _) _
  have HB0 : Hid _ := B0
  have SC := hS _ B0
  clear hS B0
  go_enter Tryz.func153, Tryz.ntmps153
  go_wp2_with (go_at_call 71; refine SC.mono ?_; clear SC; rintro e w3 ⟨ua, un, uc, rfl, i3, b3⟩; have HB3 : Hid _ := HB0.out.trans (b3.mono HB0.out.size); obtain ⟨b, off, ea, _, x0⟩ := ints_cellI i3 hx; subst ea; obtain ⟨a', c', e', l1, l2, _, _⟩ := i3; injection e' with e1 e2 e3; subst e1 e2 e3; rw [HYY.out] at x0; have x1 := x0; rw [Nat.add_zero] at x1; have hx' : (0 : Int) < (xs.length : Int) := (by omega); clear b3)
  go_ret
  exact ⟨rfl, HB3.out⟩
end Go.Proofs.YtjdpbdadeeoplaaGreatDoor.hp
