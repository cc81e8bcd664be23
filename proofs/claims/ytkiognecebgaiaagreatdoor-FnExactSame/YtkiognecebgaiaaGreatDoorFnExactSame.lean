/-
  Proved: for every heap and every graph the law FnExactSame returns true and changes no argument, so the program's Same answers as the specification's; the library's three listed tables hold what its text lays (the card ties them).
  Made from a template over the shell that the kit's proof-skeleton prints.
-/
import Derived.Test.YtkiognecebgaiaaGreatDoorRows
import Derived.WalkKit
import Derived.ProofKit
import Derived.OpenShut
import Derived.ShutString
import Derived.ChangeOld
import Derived.Below
import Derived.LaidMore
import Derived.Lib.LaidTab
import Derived.Stop.Joined
import Derived.SevenTiedAt
import Derived.Test.YtkiognecebgaiaaGreatDoorM8
import Derived.Test.YtkiognecebgaiaaGreatDoorM5
import Derived.Test.YtkiognecebgaiaaGreatDoorExactHSame
import Derived.Test.YtkiognecebgaiaaGreatDoorSamS
import Derived.Test.YtkiognecebgaiaaGreatDoorM20
import Derived.Test.YtkiognecebgaiaaGreatDoorCards
import Derived.Test.YtkiognecebgaiaaGreatDoorTie
namespace Go.Proofs.YtkiognecebgaiaaGreatDoor.fnExactSame
open Go.ChangeShapes Go.WideShapes Go.ChangeAt Go.RowKit
open Go.ChangeMaps (open_string shut_string)
open Go.Proofs.YtkiognecebgaiaaGreatDoor.rows Go.Proofs.YtkiognecebgaiaaGreatDoor.hp Go.Proofs.YtkiognecebgaiaaGreatDoor.walks
set_option linter.unusedVariables false
theorem own:ownKnob Tryz.prog.godebug=none:=by kernel_rfl
theorem laidOut:laidOutB Tryz.prog=true:=by kernel_rfl
theorem nPow:Tryz.prog.globalNamed "internal/strconv.uint64pow10" = some 0:=by kernel_rfl
theorem tPow:(Tryz.prog.globals[0]?).map (·.type)=some 220:=by kernel_rfl
theorem datum:(Rows.laid_internal_strconv_uint64pow10:DataW Unit)=Lib.tabData .u64 Lib.pow10Tab:=by kernel_rfl
theorem tab_of {W:World} (h:laidMetH Tryz.prog Rows.fnExactSameRow.laid W):gr.TabC W:=by
 rw[MakeChecks.laidMetH_plain _ _ _ (by kernel_rfl)]at h
 obtain⟨ps,⟨g0,t0,cs0,f0,p0,q0,hg0,ht0,hv0,hd0,⟨g1,t1,cs1,f1,p1,q1,hg1,ht1,hv1,hd1,⟨g2,t2,cs2,f2,p2,q2,hg2,ht2,hv2,hd2,_,_⟩,_⟩,_⟩,_,_⟩:=h
 obtain rfl:=Option.some.inj (nPow.symm.trans hg2)
 obtain rfl:=Option.some.inj (tPow.symm.trans ht2)
 rw[datum]at hd2
 unfold gr.TabC Lib.TabIs
 rw[hv2,←Lib.cells_of_tab (n:=20) Tryz.underlying220 Tryz.underlying205 (by kernel_rfl) (by kernel_rfl) hd2]
theorem walk (vr vo vm vs o0 rr0 m0:Value) (ms0:List gr.MO) (H0:Hp) (G0:gr.Gr) (w:World) (ht:gr.TabC w) (w0:HpAt w vr vo vm vs H0) (i0:HpI H0) (w1:gr.GraphAt w o0 rr0 m0 ms0 G0) :
    Calls Tryz.prog 4 #[hpv H0 vr vo vm vs,gr.gv o0 rr0 m0 G0.next G0.seed] w fun e w'=>e = .returned (.bool true)∧Below w.heap.size w w':=
 exactSame w (fun V vr vo vm vs o r m ms h hs hg hgs=>sSame_any h hs hg hgs) (fun V vr vo vm vs o r m ms hb h hs hg hgs=>implSame i0 (gr.tabC_below ht hb) h hs hg hgs) vr vo vm vs o0 rr0 m0 ms0 w0 w1
theorem door_met (os:Os) (args:Array Value):laidMetH Tryz.prog Rows.fnExactSameRow.laid ((World.doorLaid Tryz.prog 400 os).forCall (fun _ _=>0) ⟨#[],args,[]⟩).memory:=
 laidMetH_of_parts3 (fuel:=8) (laidMet_of_run' 8 (by kernel_rfl) (by kernel_rfl)) (by kernel_rfl) (by kernel_rfl)
set_option maxRecDepth 100000 in
theorem lifted (os:Os) (started:os.Started) (H:Type) (enc:TypeId×Value→H) :
    ReturnsInHanded {} Tryz.checked os 4 .any (fun w args=>(Rows.fnExactSameSpec.pre enc Tryz.prog Tryz.f4 [] false w args∧laidMetH Tryz.prog Rows.fnExactSameRow.laid w)∧sizedMet enc Tryz.prog Tryz.f4 (OpenSpec.ofChange Rows.fnExactSameSpec) false w args)
     (Rows.fnExactSameSpec.post enc Tryz.prog Tryz.f4 false true false false):=by
 refine returnsInHanded_of_change_and (C:=Tryz.checked) (X:=fun w _=>laidMetH Tryz.prog Rows.fnExactSameRow.laid w) (fun _ _ _ hh h=>h.of_heap hh) own started (by kernel_rfl) Tryz.func4
  (ChangeSpec.witness_shaped (enc:=enc) (C:=Tryz.checked) (os:=os) (X:=fun w _=>laidMetH Tryz.prog Rows.fnExactSameRow.laid w) false (World.doorLaid Tryz.prog 400 os) #[.agg #[.int .i64 0,.int .i64 0,.slice none 0 0,.int .i64 0,.int .i64 0,.slice none 0 0,.slice none 0 0,.slice none 0 0,.int .i64 0],.agg #[.slice none 0 0,.slice none 0 0,.slice none 0 0,.int .i64 0,.int .i64 0]] 8 rfl (World.shaped_of_RefB (by kernel_rfl) (by kernel_rfl)) (by kernel_rfl) (by kernel_rfl) (by kernel_rfl) (door_met os _)) ?_
 intro W base args ds gs before hval0 hW _ _ hL _
 have hval:∀(j:Nat) t v,Tryz.f4.params[j]? = some t→args[j]? = some v→Value.okWide Tryz.prog W .any base t v:=hval0
 have hW':=hW
 obtain⟨p,q,hA0,hV,rfl,hfz,hnd⟩:=hW
 have hA:DataW.TrodAll enc Tryz.prog W 0 (fun _=>true) true Tryz.f4.params.toList args.toList ds p:=hA0
 rw[Tryz.params4]at hA hval
 obtain⟨v0,vs0,d0,ds0,p0,q0,hargs,rfl,rfl,h0,r0⟩:=trodAll_cons hA
 obtain⟨v1,vs1,d1,ds1,p1,q1,rfl,rfl,rfl,h1,r1⟩:=trodAll_cons r0
 obtain⟨rfl,rfl,rfl⟩:=trodAll_nil r1
 obtain rfl:args=#[v0,v1]:=by cases args;simp_all
 obtain⟨rfl,rfl⟩:=trodVars_none hV
 have k0:=h0
 have lt0:∀x ∈ p0,x.block<W.heap.size:=by obtain⟨m,hm⟩:=k0;exact DataW.trod_lt m _ _ _ hm
 have k1:=h1
 have lt1:∀x ∈ p1,x.block<W.heap.size:=by obtain⟨m,hm⟩:=k1;exact DataW.trod_lt m _ _ _ hm
 obtain⟨vr,vo,vm,vs,H0,rfl,w0,i0⟩:=open_heap (ti:=2) (tl:=48) Tryz.underlying50 (by kernel_rfl) (by kernel_rfl) (by kernel_rfl) rfl rfl rfl rfl rfl rfl rfl rfl rfl rfl rfl rfl rfl rfl rfl rfl rfl rfl Tryz.underlying2 Tryz.underlying48 (hval 0 50 v0 rfl rfl) h0
 obtain⟨o0,rr0,m0,ms0,G0,rfl,w1⟩:=gr.open_graph (tS:=51) (eo:=141) (ti:=2) (tr:=52) (er:=150) Tryz.underlying54 (by kernel_rfl) (by kernel_rfl) (by kernel_rfl) (by kernel_rfl) rfl rfl rfl rfl rfl rfl rfl rfl rfl rfl Tryz.underlying51 Tryz.underlying141 (by kernel_rfl) rfl rfl rfl rfl rfl Tryz.underlying2 rfl rfl rfl rfl rfl Tryz.underlying52 Tryz.underlying150 (by kernel_rfl) rfl rfl rfl rfl (hval 1 54 v1 rfl rfl) h1
 clear hA0 hval0
 refine (walk vr vo vm vs o0 rr0 m0 ms0 H0 G0 W (tab_of hL) w0 i0 w1).mono fun e W' ⟨he,bel⟩ => ?_
 subst he
 exact⟨_,rfl,_,_,_,[],_,[],hW',trodAll_mk1 (shut_bool Tryz.underlying4 _),(trodAll_cons_mk (Below.trod laidOut (by kernel_rfl) (of_decide_eq_true (by kernel_rfl)) k0 bel lt0) (trodAll_cons_mk (Below.trod laidOut (by kernel_rfl) (of_decide_eq_true (by kernel_rfl)) k1 bel lt1) trodAll_mk0)),rfl,bel.frame _,fun h=>by cases h⟩
theorem over:Rows.fnExactSameRow.holds Tryz.pinned (OpenSpec.ofChange Rows.fnExactSameSpec):=
 OpenClaim.holds_of_wide 4 Tryz.f4 rfl rfl rfl rfl rfl rfl rfl ⟨rfl,rfl,rfl,rfl,rfl⟩ rfl rfl rfl rfl rfl (by kernel_rfl) Tryz.func4 (by kernel_rfl)
  (of_decide_eq_true (by kernel_rfl)) (by unfold Func.isWrapper;first|(rw[if_pos (by decide +kernel)];kernel_rfl)|(rw[if_neg (by decide +kernel)];exact⟨rfl,rfl⟩))
  (fun os started H enc _=>lifted os started H enc)
theorem proved:Rows.FnExactSameCardSaid:=
 Claim7.holds_tied_plain_at .later [] [.data,.data,.data] true Rows.fnExactSameCard.stood.harness true
  over (fun _ h=>by cases h) (by kernel_rfl) (fun _ h=>by cases h) fnExactSame_row_tie rfl ⟨rfl,rfl⟩ (by kernel_rfl) rfl
  (fun f fn hf hfn=>by
   obtain rfl:f=4:=Option.some.inj ((show Tryz.prog.funcNamed "loop.example/g00337/laws.FnExactSame" = some 4 by kernel_rfl).symm.trans hf) |>.symm
   obtain rfl:fn=Tryz.f4:=(Option.some.inj (Tryz.func4.symm.trans hfn)).symm
   exact⟨by kernel_rfl,fun j t ht=>by
    rw[Tryz.params4]at ht
    have h3:t=50∨t=54:=by
     rcases j with _|_|j
     ·exact .inl (by simpa using ht.symm)
     ·exact .inr (by simpa using ht.symm)
     ·simp at ht
    rcases h3 with h3|h3<;>subst h3
    ·exact (show Tryz.prog.wantsStandIn 50=false by kernel_rfl)
    ·exact (show Tryz.prog.wantsStandIn 54=false by kernel_rfl)⟩)
  (by kernel_rfl)
#print axioms proved
end Go.Proofs.YtkiognecebgaiaaGreatDoor.fnExactSame
