/-
  Chapter 5 as the specification has it: Released.
  Made from the template ClassS2.
-/
import Derived.Test.YtdogibjgogcdkabClassS
import Derived.Test.YtdogibjgogcdkabEntsA
namespace Go.Proofs.Ytdogibjgogcdkab.ents
open Go.RowKit rows heads

/-- Those whose Index is another one. -/
def others (es : List Ent) (x : Int) : List Ent := es.filter (fun e => !(e.1 == x))
def hasIx (es : List Ent) (x : Int) : Bool := es.any (fun e => e.1 == x)
theorem take_succE {es : List Ent} {k : Nat} (h : k < es.length) : es.take (k + 1) = es.take k ++ [es.getD k entD] := by
  rw [List.take_add_one, List.getD_eq_getElem?_getD, List.getElem?_eq_getElem h]
  rfl
theorem others_snoc (es : List Ent) (e : Ent) (x : Int) : others (es ++ [e]) x = if (e.1 == x) = true then others es x else others es x ++ [e] := by
  unfold others
  rw [List.filter_append]
  cases h : (e.1 == x) <;> simp [h]
theorem hasIx_snoc (es : List Ent) (e : Ent) (x : Int) : hasIx (es ++ [e]) x = (hasIx es x || (e.1 == x)) := by simp [hasIx]
theorem others_length (es : List Ent) (x : Int) : (others es x).length ≤ es.length := List.length_filter_le _ _

def relOk (es : List Ent) (x : Int) : Bool := clsOk es && hasIx es x
def released (es : List Ent) (x : Int) : List Ent := if clsOk es = true then others es x else []

theorem ent_one (W : World) (e : Ent) : EntsAt (W.alloc (eb e)) (.slice (some ⟨W.heap.size, 0, none⟩) [e].length 1) [e] := by
  obtain ⟨x, s⟩ := e
  have N := ebAt_new W x s
  refine ⟨_, 1, rfl, by simp, by decide, (fun h => by cases h), fun _ => ⟨W.heap.size, 0, rfl, by simp, fun i hi => ?_⟩⟩
  obtain rfl : i = 0 := by simpa using hi
  exact ⟨N.1, N.2⟩

set_option maxHeartbeats 4000000 in
theorem sReleased_any {w : World} {v : Value} {es : List Ent} (h : EntsAt w v es) (hb : Borne es) (x : Int) :
    Calls Try.prog 26 #[v, .int .i64 x] w fun e w' => ∃ v', e = .returned (.tuple #[v', .bool (relOk es x)]) ∧ OwnE w' w.heap.size v' (released es x) ∧ Below w.heap.size w w' := by
  have B0 : Below w.heap.size w (w.alloc (.cells #[] 49)) := (Below.refl _ _).alloc (Nat.le_refl _) _
  have O0 := ownE_new (Below.refl w.heap.size w)
  have CK := sClassesOk_any (entsAt_below h B0) hb
  have s0 : w.heap.size ≤ (w.alloc (.cells #[] 49)).heap.size := B0.size
  cases d : clsOk es
  · have e1 : relOk es x = false := by unfold relOk; rw [d]; rfl
    have e2 : released es x = [] := by unfold released; rw [d]; rfl
    rw [e1, e2]
    rw [d] at CK
    clear e1 e2
    go_enter Try.func26, Try.ntmps26
    go_wp2_with fail
    generalize (w.alloc (Obj.cells #[] 49)) = X at *
    refine CK.mono ?_
    rintro e w1 ⟨rfl, b1⟩
    have HO : Hid (OwnE w1 w.heap.size (.slice (some ⟨w.heap.size, 0, none⟩) 0 0) []) := ownE_below (show OwnE X w.heap.size (.slice (some ⟨w.heap.size, 0, none⟩) 0 0) [] from O0) b1
    have HB : Hid _ := B0.trans (b1.mono s0)
    clear b1 B0 O0 CK
    go_wp2
    go_ret2
    exact ⟨_, rfl, HO, HB⟩
  · have h40 := (clsOk_at d).1
    have e1 : relOk es x = hasIx es x := by unfold relOk; rw [d]; rfl
    have e2 : released es x = others es x := by unfold released; rw [d]; rfl
    rw [e1, e2]
    rw [d] at CK
    have h' := h
    obtain ⟨a, cap, rfl, hlc, hcm, _, hc⟩ := h
    have hcm' : cap ≤ 9223372036854775807 := hcm
    have HC : Hid _ := hc
    clear hc e1 e2
    go_enter Try.func26, Try.ntmps26
    go_wp2_with fail
    generalize (w.alloc (Obj.cells #[] 49)) = X at *
    refine CK.mono ?_
    rintro e w1 ⟨rfl, b1⟩
    have O1 := ownE_below (show OwnE X w.heap.size (.slice (some ⟨w.heap.size, 0, none⟩) 0 0) [] from O0) b1
    have B1 := B0.trans (b1.mono s0)
    clear b1 B0 O0 CK
    go_wp2_with fail
    go_loopw [6, 7, 8] (fun p q i wr => ∃ (k g c : Nat), k ≤ es.length ∧ i = .int .i64 k ∧ q = .bool (hasIx (es.take k) x) ∧ p = .slice (some ⟨g, 0, none⟩) (others (es.take k) x).length c ∧ OwnE wr w.heap.size (.slice (some ⟨g, 0, none⟩) (others (es.take k) x).length c) (others (es.take k) x) ∧ Below w.heap.size w wr) (fun _ _ i _ => es.length - (intOf i).toNat)
    case atStart => exact ⟨0, w.heap.size, 0, Nat.zero_le _, rfl, by simp [hasIx], by simp [others], by simpa [others] using O1, B1⟩
    case round =>
      obtain ⟨k, g, c, hk, rfl, rfl, rfl, Or, Br⟩ := hrel
      by_cases hlt : k < es.length
      · obtain ⟨b, off, rfl, hbl, hc⟩ := HC.out (by omega)
        have c0 := (Br.cell (p := ⟨b, off + k * 2, none⟩) hbl).trans (hc k hlt).1
        have c1 := (Br.cell (p := ⟨b, off + k * 2 + 1, none⟩) hbl).trans (hc k hlt).2
        have ts := take_succE hlt
        have OS := others_snoc (es.take k) (es.getD k entD) x
        have HS := hasIx_snoc (es.take k) (es.getD k entD) x
        rw [← ts] at OS HS
        have ol := others_length (es.take k) x
        have ol2 : (es.take k).length ≤ es.length := by rw [List.length_take]; omega
        clear hc HC ts
        generalize es.getD k entD = y at *
        obtain ⟨y, s⟩ := y
        cases dy : (y == x)
        · rw [dy] at OS HS
          simp only [Bool.false_eq_true, if_false, Bool.or_false] at OS HS
          have HOS : Hid _ := OS
          have HHS : Hid _ := HS
          have HO : Hid _ := Or
          have HB : Hid _ := Br
          have nl : (others (es.take k) x).length ≤ 1048000 := by omega
          clear OS HS Or Br
          generalize others (es.take k) x = fs at *
          generalize hasIx (es.take k) x = hs at *
          go_wp2_with (at_builtin; refine wpList_appE (wb := w) (HB.out.alloc HB.out.size (eb (y, s))) (HO.out.alloc _) (ent_one wr (y, s)) (by simp; omega) rfl _ _ rfl rfl rfl ?_; intro g' c' w3 hO3 hB3)
          refine ⟨⟨k + 1, g', c', by omega, by go_num, by rw [HHS.out], by rw [HOS.out]; simp, ?_, hB3⟩, by simp [intOf]; omega⟩
          rw [HOS.out]
          have e3 : (fs ++ [(y, s)]).length = fs.length + 1 := by simp
          show World.ownsRow _ _ _ _ _ _ _
          rw [e3]
          exact hO3
        · rw [dy] at OS HS
          simp only [if_true, Bool.or_true] at OS HS
          have HOS : Hid _ := OS
          have HHS : Hid _ := HS
          have HO : Hid _ := Or
          have HB : Hid _ := Br
          clear OS HS Or Br
          generalize others (es.take k) x = fs at *
          generalize hasIx (es.take k) x = hs at *
          go_wp2
          exact ⟨⟨k + 1, g, c, by omega, by go_num, by rw [HHS.out], by rw [HOS.out], by rw [HOS.out]; exact HO, HB⟩, by simp [intOf]; omega⟩
      · have et : es.take k = es := List.take_of_length_le (by omega)
        rw [et] at Or ⊢
        have HO : Hid _ := Or
        have HB : Hid _ := Br
        clear Or Br HC
        go_wp2
        go_ret2
        exact ⟨_, rfl, HO, HB⟩
end Go.Proofs.Ytdogibjgogcdkab.ents
