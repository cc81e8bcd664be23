/-
  Proved: for every heap the law FnExactNilled returns true and changes no argument, so the program's Nilled answers as the specification's; the package's three listed variables hold what the program's text lays (the card ties them).
  Made from the template FnExactNilled.
-/
import Derived.Test.YtacilbilnbmcbaaGreatDoorRows
import Derived.WalkKit
import Derived.ProofKit
import Derived.OpenShut
import Derived.ShutString
import Derived.ChangeOld
import Derived.Below
import Derived.ChangeSame
import Derived.ChangeVars
import Derived.JoinedOf
import Derived.RowKit
import Derived.RowKitTokens
import Derived.LaidLaws
import Derived.LaidHandle
import Derived.Stop.ErrReads
import Derived.Stop.Joined
import Derived.SevenTiedAt
import Derived.Test.YtacilbilnbmcbaaGreatDoorM6
import Derived.Test.YtacilbilnbmcbaaGreatDoorExactHNilled
import Derived.Test.YtacilbilnbmcbaaGreatDoorM26
import Derived.Test.YtacilbilnbmcbaaGreatDoorNilI4
import Derived.Test.YtacilbilnbmcbaaGreatDoorCards
import Derived.Test.YtacilbilnbmcbaaGreatDoorTie
namespace Go.Proofs.YtacilbilnbmcbaaGreatDoor.fnExactNilled
open Go.ChangeShapes Go.WideShapes Go.ChangeAt Go.RowKit
open Go.ChangeMaps (open_string shut_string)
open Go.Proofs.YtacilbilnbmcbaaGreatDoor.rows Go.Proofs.YtacilbilnbmcbaaGreatDoor.hp Go.Proofs.YtacilbilnbmcbaaGreatDoor.walks
set_option linter.unusedVariables false
set_option maxRecDepth 100000

theorem own : ownKnob Tryz.prog.godebug = none := by kernel_rfl
theorem laidOut : laidOutB Tryz.prog = true := by kernel_rfl
theorem nW : Tryz.prog.globalNamed "loop.example/g00337/impl.errWrongHeap" = some 0 := by kernel_rfl
theorem nE : Tryz.prog.globalNamed "errors.errorType" = some 1 := by kernel_rfl
theorem nN : Tryz.prog.globalNamed "loop.example/g00337/impl.errNotKept" = some 2 := by kernel_rfl
theorem tW : (Tryz.prog.globals[0]?).map (·.type) = some 43 := by kernel_rfl
theorem tN : (Tryz.prog.globals[2]?).map (·.type) = some 43 := by kernel_rfl
theorem nameE : Tryz.prog.typeName? 3 245 = some "*errors.errorString" := by kernel_rfl
theorem cellsE : Tryz.prog.cellsOf 266 = 1 := by kernel_rfl
theorem cellsS : Tryz.prog.cellsOf 9 = 1 := by kernel_rfl
theorem star : "*" ++ "errors.errorString" = "*errors.errorString" := by decide
theorem rowE (u : TypeId) (h : Tryz.prog.typeName? 3 u = some "*errors.errorString") : u = 245 :=
  typeName_ptr_named (nm := "errors.errorString") (by rw [star]; kernel_rfl) (by kernel_rfl) (by decide) u (by rw [star]; exact h)
theorem rtT : (Tryz.prog.cutTypes.find? (·.1 == "internal/reflectlite.rtype")).map (·.2) = some 130 := by kernel_rfl
theorem oneRow : ((List.range (378 - 100)).filter fun t => Tryz.prog.rowNamed t [101, 114, 114, 111, 114]) = [43] := by kernel_rfl
theorem nTypes : Tryz.prog.types.size = 378 - 100 := by kernel_rfl
abbrev two : List (String × DataW Unit) := [("loop.example/g00337/impl.errWrongHeap", Rows.laid_loop_example_g00337_impl_errWrongHeap), ("loop.example/g00337/impl.errNotKept", Rows.laid_loop_example_g00337_impl_errNotKept)]
theorem parts_of {W : World} (h : laidMetH Tryz.prog Rows.fnExactNilledRow.laid W) : laidMet Tryz.prog two W ∧ handlesMet Tryz.prog [("errors.errorType", Rows.laid_errors_errorType)] W := h
theorem handle_of {W : World} (h : handlesMet Tryz.prog [("errors.errorType", Rows.laid_errors_errorType)] W) : W.cell? ⟨1, 0, none⟩ = some (.iface 130 (.agg #[.pointer (some ⟨3, 43, none⟩)])) := by
  obtain ⟨name, u, ty, e1, e2, e3, e4, e5⟩ := h _ (List.mem_singleton.2 rfl)
  have en : name = [101, 114, 114, 111, 114] := (Option.some.inj e1).symm
  subst en
  obtain rfl := Option.some.inj (rtT.symm.trans e2)
  have hm : ty ∈ (List.range (378 - 100)).filter fun t => Tryz.prog.rowNamed t [101, 114, 114, 111, 114] := List.mem_filter.2 ⟨List.mem_range.2 (by rw [← nTypes]; exact e3), e4⟩
  rw [oneRow] at hm
  obtain rfl := List.mem_singleton.1 hm
  have hh : typeHandle Tryz.prog 43 = .pointer (some ⟨3, 43, none⟩) := by kernel_rfl
  rw [hh] at e5
  simpa using World.var?_cell nE e5 0
theorem sentinels_of {W : World} (h : laidMet Tryz.prog two W) : ∃ (a0 a1 : Addr), W.var? Tryz.prog "loop.example/g00337/impl.errWrongHeap" = some #[.iface 245 (.pointer (some a0))] ∧ W.var? Tryz.prog "loop.example/g00337/impl.errNotKept" = some #[.iface 245 (.pointer (some a1))] := by
  obtain ⟨ps, ⟨g0, t0, cs0, f0, p0, q0, hg0, ht0, hv0, hd0, ⟨g1, t1, cs1, f1, p1, q1, hg1, ht1, hv1, hd1, hq1, e1⟩, e0⟩, hnd, hrows⟩ := h
  obtain rfl := Option.some.inj (nW.symm.trans hg0)
  obtain rfl := Option.some.inj (nN.symm.trans hg1)
  obtain rfl := Option.some.inj (tW.symm.trans ht0)
  obtain rfl := Option.some.inj (tN.symm.trans ht1)
  have hq1' : q1 = [] := hq1
  subst hq1'
  subst e1
  subst e0
  obtain ⟨l0⟩ := cs0
  obtain ⟨l1⟩ := cs1
  have ok0 : ∀ u v, l0 = [.iface u v] → Value.okWide Tryz.prog W .any 0 u v := fun u v e => by
    subst e
    exact (hrows 0 0 (by simp [MemPlace.row])).2 u v (by simpa using World.var?_cell hg0 hv0 0)
  have ok1 : ∀ u v, l1 = [.iface u v] → Value.okWide Tryz.prog W .any 0 u v := fun u v e => by
    subst e
    exact (hrows 2 0 (by simp [MemPlace.row])).2 u v (by simpa using World.var?_cell hg1 hv1 0)
  obtain ⟨a0, s0, rfl, _⟩ := errorString_of_trod Tryz.underlying43 rowE Tryz.underlying245 Tryz.underlying266 rfl rfl Tryz.underlying9 cellsE cellsS hd0 ok0
  obtain ⟨a1, s1, rfl, _⟩ := errorString_of_trod Tryz.underlying43 rowE Tryz.underlying245 Tryz.underlying266 rfl rfl Tryz.underlying9 cellsE cellsS hd1 ok1
  exact ⟨a0, a1, hv0, hv1⟩
abbrev wS : ByteArray := { data := #[116, 104, 101, 32, 104, 101, 97, 112, 32, 105, 115, 32, 110, 111, 116, 32, 114, 105, 103, 104, 116] }
abbrev kS : ByteArray := { data := #[110, 111, 98, 111, 100, 121, 32, 101, 108, 115, 101, 32, 107, 101, 101, 112, 115, 32, 119, 104, 97, 116, 32, 105, 115, 32, 108, 101, 100, 32, 116, 111] }
theorem laidWorld_met (os : Os) (args : Array Value) : laidMetH Tryz.prog Rows.fnExactNilledRow.laid (({ World.holding Tryz.prog os ⟨#[.cells #[.string wS] 266, .cells #[.string kS] 266], #[], []⟩ with heap := (((World.holding Tryz.prog os ⟨#[.cells #[.string wS] 266, .cells #[.string kS] 266], #[], []⟩).heap.modify 0 fun | .cells _ t frozen => .cells #[.iface 245 (.pointer (some ⟨((World.holding Tryz.prog default ⟨#[], #[], []⟩).heap.size), 0, none⟩))] t frozen | o => o).modify 1 fun | .cells _ t frozen => .cells #[.iface 130 (.agg #[.pointer (some ⟨3, 43, none⟩)])] t frozen | o => o).modify 2 fun | .cells _ t frozen => .cells #[.iface 245 (.pointer (some ⟨((World.holding Tryz.prog default ⟨#[], #[], []⟩).heap.size) + 1, 0, none⟩))] t frozen | o => o } : World).forCall (fun _ _ => 0) ⟨#[], args, []⟩).memory :=
  laidMetH_of_parts (laidMet_of_run (ps := [.cell 0 0, .cell ((World.holding Tryz.prog default ⟨#[], #[], []⟩).heap.size) 0, .cell 2 0, .cell (((World.holding Tryz.prog default ⟨#[], #[], []⟩).heap.size) + 1) 0]) 8 (by kernel_rfl) (by kernel_rfl) (by kernel_rfl)) (by kernel_rfl)
theorem var_below {W W' : World} {n : String} {cs : Array Value} (h : W.var? Tryz.prog n = some cs) (hb : Below W.heap.size W W') : W'.var? Tryz.prog n = some cs := by
  unfold World.var? at h ⊢
  cases hg : Tryz.prog.globalNamed n with
  | none => simp [hg] at h
  | some g =>
    simp only [hg, Option.bind_some] at h ⊢
    have hlt : g < W.heap.size := by
      rcases Nat.lt_or_ge g W.heap.size with h' | h'
      · exact h'
      · simp [Array.getElem?_eq_none h'] at h
    rw [hb.block g hlt]
    exact h
theorem vars_read {H : Type} (enc : TypeId × Value → H) {W : World} {x0 x1 : Value} (h0 : W.var? Tryz.prog "loop.example/g00337/impl.errWrongHeap" = some #[x0]) (h1 : W.var? Tryz.prog "loop.example/g00337/impl.errNotKept" = some #[x1]) (i0 : IsIface x0) (i1 : IsIface x1) (sp : Nat → Bool) :
    DataW.TrodVars enc Tryz.prog W sp ["loop.example/g00337/impl.errWrongHeap", "loop.example/g00337/impl.errNotKept"] [tok enc x0, tok enc x1] [.cell 0 0, .cell 2 0] :=
  ⟨0, 43, #[x0], 1, [], [.cell 2 0], nW, tW, h0, trod_held Tryz.underlying43 i0 0, ⟨2, 43, #[x1], 1, [], [], nN, tN, h1, trod_held Tryz.underlying43 i1 0, rfl, rfl⟩, rfl⟩
theorem walk (vr vo vm vs : Value) (G : Hp) (w : World) {pW pN : Addr} (hG : Glob w pW pN) (w0 : HpAt w vr vo vm vs G) (i0 : HpI G) :
    Calls Tryz.prog 4 #[hpv G vr vo vm vs] w fun e w' => e = .returned (.bool true) ∧ Below w.heap.size w w' :=
  (isMarksOk_ex G).elim fun L hL => exactNilled w (fun w vr vo vm vs h hs => sNilled_any hL h hs) (fun V vr vo vm vs hb h hs => implNilled i0 hL V vr vo vm vs (hG.below hb) h hs) (fun hs => nilOk_size hL hs) vr vo vm vs w0

theorem lifted (os : Os) (started : os.Started) (H : Type) (enc : TypeId × Value → H) :
    ReturnsInHanded {} Tryz.checked os 4 .any (fun w args => (Rows.fnExactNilledSpec.pre enc Tryz.prog Tryz.f4 [] false w args ∧ laidMetH Tryz.prog Rows.fnExactNilledRow.laid w) ∧ sizedMet enc Tryz.prog Tryz.f4 (OpenSpec.ofChange Rows.fnExactNilledSpec) false w args)
      (Rows.fnExactNilledSpec.post enc Tryz.prog Tryz.f4 false true false false) := by
  refine returnsInHanded_of_change_and (C := Tryz.checked) (X := fun w _ => laidMetH Tryz.prog Rows.fnExactNilledRow.laid w) (fun _ _ _ hh h => h.of_heap hh) own started (by kernel_rfl) Tryz.func4
    (ChangeSpec.witness_at (enc := enc) (C := Tryz.checked) (os := os) (X := fun w _ => laidMetH Tryz.prog Rows.fnExactNilledRow.laid w) false ({ World.holding Tryz.prog os ⟨#[.cells #[.string wS] 266, .cells #[.string kS] 266], #[], []⟩ with heap := (((World.holding Tryz.prog os ⟨#[.cells #[.string wS] 266, .cells #[.string kS] 266], #[], []⟩).heap.modify 0 fun | .cells _ t frozen => .cells #[.iface 245 (.pointer (some ⟨((World.holding Tryz.prog default ⟨#[], #[], []⟩).heap.size), 0, none⟩))] t frozen | o => o).modify 1 fun | .cells _ t frozen => .cells #[.iface 130 (.agg #[.pointer (some ⟨3, 43, none⟩)])] t frozen | o => o).modify 2 fun | .cells _ t frozen => .cells #[.iface 245 (.pointer (some ⟨((World.holding Tryz.prog default ⟨#[], #[], []⟩).heap.size) + 1, 0, none⟩))] t frozen | o => o } : World) #[.agg #[.int .i64 0, .int .i64 0, .slice none 0 0, .int .i64 0, .int .i64 0, .slice none 0 0, .slice none 0 0, .slice none 0 0, .int .i64 0]] 8 rfl (by kernel_rfl) (by kernel_rfl) (by kernel_rfl) (by kernel_rfl) (by kernel_rfl) (laidWorld_met os _)) ?_
  intro W base args ds gs before hval0 hW _ _ hL _
  have hval : ∀ (j : Nat) t v, Tryz.f4.params[j]? = some t → args[j]? = some v → Value.okWide Tryz.prog W .any base t v := hval0
  have hW' := hW
  obtain ⟨p, q, hA0, hV0, rfl, hfz, hnd⟩ := hW
  have hA : DataW.TrodAll enc Tryz.prog W 0 (fun _ => true) true Tryz.f4.params.toList args.toList ds p := hA0
  have hV : DataW.TrodVars enc Tryz.prog W (fun _ => true) ["loop.example/g00337/impl.errWrongHeap", "loop.example/g00337/impl.errNotKept"] gs q := hV0
  rw [Tryz.params4] at hA hval
  obtain ⟨v0, vs0, d0, ds0, p0, q0, hargs, rfl, rfl, h0, r0⟩ := trodAll_cons hA
  obtain ⟨rfl, rfl, rfl⟩ := trodAll_nil r0
  obtain rfl : args = #[v0] := by cases args; simp_all
  obtain ⟨hl, hh⟩ := parts_of hL
  obtain ⟨a0, a1, hv0, hv1⟩ := sentinels_of hl
  obtain ⟨rfl, rfl⟩ := hV.unique (vars_read enc hv0 hv1 trivial trivial _)
  have hG : Glob W a0 a1 := ⟨by simpa using World.var?_cell nW hv0 0, handle_of hh, by simpa using World.var?_cell nN hv1 0⟩
  have k0 := h0
  have lt0 : ∀ x ∈ p0, x.block < W.heap.size := by obtain ⟨m, hm⟩ := k0; exact DataW.trod_lt m _ _ _ hm
  obtain ⟨vr, vo, vm, vs, G, rfl, w0, i0⟩ := open_heap (ti := 2) (tl := 22) Tryz.underlying24 (by kernel_rfl) (by kernel_rfl) (by kernel_rfl) rfl rfl rfl rfl rfl rfl rfl rfl rfl rfl rfl rfl rfl rfl rfl rfl rfl rfl Tryz.underlying2 Tryz.underlying22 (hval 0 24 v0 rfl rfl) h0
  clear hA0 hval0 hV0
  refine (walk vr vo vm vs G W hG w0 i0).mono fun e W' ⟨he, bel⟩ => ?_
  subst he
  exact ⟨_, rfl, _, _, _, [], _, [.cell 0 0, .cell 2 0], hW', trodAll_mk1 (shut_bool Tryz.underlying4 _), (trodAll_cons_mk (Below.trod laidOut (by kernel_rfl) (of_decide_eq_true (by kernel_rfl)) k0 bel lt0) trodAll_mk0), vars_read enc (var_below hv0 bel) (var_below hv1 bel) trivial trivial _, bel.frame _, fun h => by cases h⟩

theorem over : Rows.fnExactNilledRow.holds Tryz.pinned (OpenSpec.ofChange Rows.fnExactNilledSpec) :=
  OpenClaim.holds_of_wide 4 Tryz.f4 rfl rfl rfl rfl rfl rfl rfl ⟨rfl, rfl, rfl, rfl, rfl⟩ rfl rfl rfl rfl rfl (by kernel_rfl) Tryz.func4 (by kernel_rfl)
    (of_decide_eq_true (by kernel_rfl)) (by unfold Func.isWrapper; first | (rw [if_pos (by decide +kernel)]; kernel_rfl) | (rw [if_neg (by decide +kernel)]; exact ⟨rfl, rfl⟩))
    (fun os started H enc _ => lifted os started H enc)

theorem proved : Rows.FnExactNilledCardSaid :=
  Claim7.holds_tied_plain_at .later [] [.handle, .sentinel, .sentinel] true Rows.fnExactNilledCard.stood.harness true
    over (fun _ h => by cases h) (by kernel_rfl) (fun _ h => by cases h) fnExactNilled_row_tie rfl ⟨rfl, rfl⟩ (by kernel_rfl) rfl
    (fun f fn hf hfn => by
      obtain rfl : f = 4 := Option.some.inj ((show Tryz.prog.funcNamed "loop.example/g00337/laws.FnExactNilled" = some 4 by kernel_rfl).symm.trans hf) |>.symm
      obtain rfl : fn = Tryz.f4 := (Option.some.inj (Tryz.func4.symm.trans hfn)).symm
      exact ⟨by kernel_rfl, fun j t ht => by
        rw [Tryz.params4] at ht
        have h3 : t = 24 := by
          rcases j with _ | j
          · simpa using ht.symm
          · simp at ht
        subst h3
        exact (show Tryz.prog.wantsStandIn 24 = false by kernel_rfl)⟩)
    (by kernel_rfl)
#print axioms proved
end Go.Proofs.YtacilbilnbmcbaaGreatDoor.fnExactNilled
