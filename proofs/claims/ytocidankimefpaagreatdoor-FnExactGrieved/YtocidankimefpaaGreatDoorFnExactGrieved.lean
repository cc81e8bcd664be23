/- Proved: for every heap the law FnExactGr -/
import Derived.ShutString
import Derived.ChangeOld
import Derived.ChangeSame
import Derived.ChangeVars
import Derived.JoinedOf
import Derived.RowKit
import Derived.LaidLaws
import Derived.LaidHandle
import Derived.Stop.ErrReads
import Derived.Stop.Joined
import Derived.SevenTiedAt
import Derived.Test.YtocidankimefpaaGreatDoorExactHGrieved
import Derived.Test.YtocidankimefpaaGreatDoorGrvI3
import Derived.Test.YtocidankimefpaaGreatDoorCards
import Derived.Test.YtocidankimefpaaGreatDoorTie
set_option linter.unusedVariables false
set_option maxRecDepth 100000
namespace Go.Proofs.YtocidankimefpaaGreatDoor.fnExactGrieved
open Go.ChangeShapes Go.WideShapes Go.ChangeAt Go.RowKit
open Go.ChangeMaps (open_string shut_string)
open Go.Proofs.YtocidankimefpaaGreatDoor.rows Go.Proofs.YtocidankimefpaaGreatDoor.hp Go.Proofs.YtocidankimefpaaGreatDoor.walks
theorem own:ownKnob Tryz.prog.godebug=none:=by kernel_rfl
theorem laidOut:laidOutB Tryz.prog=true:=by kernel_rfl
theorem nW:Tryz.prog.globalNamed "loop.example/g00337/impl.errWrongHeap" = some 0:=by kernel_rfl
theorem tW:(Tryz.prog.globals[0]?).map (·.type)=some 43:=by kernel_rfl
theorem JI:Tryz.prog.typeName? 3 240=some "*errors.errorString" := by kernel_rfl
theorem cellsE:Tryz.prog.cellsOf 265=1:=by kernel_rfl
theorem Iw:Tryz.prog.cellsOf 9=1:=by kernel_rfl
theorem star : "*" ++ "errors.errorString" = "*errors.errorString" := by decide
theorem JJ (u:TypeId) (h:Tryz.prog.typeName? 3 u=some "*errors.errorString"):u=240:=
 typeName_ptr_named (nm:= "errors.errorString") (by rw[star];kernel_rfl) (by kernel_rfl) (by decide) u (by rw[star];exact h)
abbrev one:List (String×DataW Unit):=[("loop.example/g00337/impl.errWrongHeap", Rows.laid_loop_example_g00337_impl_errWrongHeap)]
theorem F9 {W:World} (h:laidMetH Tryz.prog Rows.fnExactGrievedRow.laid W):laidMet Tryz.prog one W:=h
theorem yu {W:World} (h:laidMet Tryz.prog one W):∃a0:Addr,W.var? Tryz.prog "loop.example/g00337/impl.errWrongHeap" = some #[.iface 240 (.pointer (some a0))]:=by
 obtain⟨ps,⟨g0,t0,cs0,f0,p0,q0,hg0,ht0,hv0,hd0,hq0,e0⟩,hnd,hrows⟩:=h;obtain rfl:=Option.some.inj (nW.symm.trans hg0);obtain rfl:=Option.some.inj (tW.symm.trans ht0);have hq0':q0=[]:=hq0;subst hq0';subst e0;obtain⟨l0⟩:=cs0
 have ok0:∀u v,l0=[.iface u v]→Value.okWide Tryz.prog W .any 0 u v:=fun u v e=>by
  subst e;exact (hrows 0 0 (by simp[MemPlace.row])).2 u v (by simpa using World.var?_cell hg0 hv0 0)
 obtain⟨a0,s0,rfl,_⟩:=errorString_of_trod Tryz.underlying43 JJ Tryz.underlying240 Tryz.underlying265 rfl rfl Tryz.underlying9 cellsE Iw hd0 ok0;exact⟨a0,hv0⟩
abbrev wS:ByteArray:= { data:=#[116,104,101,32,104,101,97,112,32,105,115,32,110,111,116,32,114,105,103,104,116] }
theorem uw (os:Os) (args:Array Value):laidMetH Tryz.prog Rows.fnExactGrievedRow.laid (({ World.holding Tryz.prog os ⟨#[.cells #[.string wS] 265],#[],[]⟩ with heap:=(World.holding Tryz.prog os ⟨#[.cells #[.string wS] 265],#[],[]⟩).heap.modify 0 fun | .cells _ t frozen => .cells #[.iface 240 (.pointer (some ⟨((World.holding Tryz.prog default ⟨#[],#[],[]⟩).heap.size),0,none⟩))] t frozen|o=>o }:World).forCall (fun _ _=>0) ⟨#[],args,[]⟩).memory:=
 laidMetH_of_parts (laidMet_of_run (ps:=[.cell 0 0,.cell ((World.holding Tryz.prog default ⟨#[],#[],[]⟩).heap.size) 0]) 8 (by kernel_rfl) (by kernel_rfl) (by kernel_rfl)) (by kernel_rfl)
theorem Ds {W W':World} {n:String} {cs:Array Value} (h:W.var? Tryz.prog n=some cs) (hb:Below W.heap.size W W'):W'.var? Tryz.prog n=some cs:=by
 unfold World.var? at h ⊢;cases hg:Tryz.prog.globalNamed n with
 |none=>simp[hg]at h
 |some g=>
  simp only[hg,Option.bind_some]at h ⊢
  have hlt:g<W.heap.size:=by
   rcases Nat.lt_or_ge g W.heap.size with h'|h'
   ·exact h'
   ·simp[Array.getElem?_eq_none h']at h
  rw[hb.block g hlt];exact h
theorem wF {H:Type} (enc:TypeId×Value→H) {W:World} {x0:Value} (h0:W.var? Tryz.prog "loop.example/g00337/impl.errWrongHeap" = some #[x0]) (i0:IsIface x0) (sp:Nat→Bool) :
    DataW.TrodVars enc Tryz.prog W sp ["loop.example/g00337/impl.errWrongHeap"] [tok enc x0] [.cell 0 0]:=
 ⟨0,43,#[x0],1,[],[],nW,tW,h0,trod_held Tryz.underlying43 i0 0,rfl,rfl⟩
theorem walk (vr vo vm vs:Value) (G:Hp) (w:World) {pW:Addr} (hG:Gp w pW) (w0:eW w vr vo vm vs G) (i0:HpI G) :
    Calls Tryz.prog 3 #[hpv G vr vo vm vs] w fun e w'=>e = .returned (.bool true)∧Below w.heap.size w w':=
 (xV (H:=G)).elim fun R hR=>wK w (fun w vr vo vm vs h hs=>vR hR h hs) (fun V vr vo vm vs hb h hs=>xj i0 hR V vr vo vm vs (hG.below hb) h hs) (fun hs=>Ai hR hs) vr vo vm vs w0
theorem lifted (os:Os) (started:os.Started) (H:Type) (enc:TypeId×Value→H) :
    ReturnsInHanded {} Tryz.checked os 3 .any (fun w args=>(Rows.fnExactGrievedSpec.pre enc Tryz.prog Tryz.f3 [] false w args∧laidMetH Tryz.prog Rows.fnExactGrievedRow.laid w)∧sizedMet enc Tryz.prog Tryz.f3 (OpenSpec.ofChange Rows.fnExactGrievedSpec) false w args)
     (Rows.fnExactGrievedSpec.post enc Tryz.prog Tryz.f3 false true false false):=by
 refine returnsInHanded_of_change_and (C:=Tryz.checked) (X:=fun w _=>laidMetH Tryz.prog Rows.fnExactGrievedRow.laid w) (fun _ _ _ hh h=>h.of_heap hh) own started (by kernel_rfl) Tryz.func3
  (ChangeSpec.witness_at (enc:=enc) (C:=Tryz.checked) (os:=os) (X:=fun w _=>laidMetH Tryz.prog Rows.fnExactGrievedRow.laid w) false ({ World.holding Tryz.prog os ⟨#[.cells #[.string wS] 265],#[],[]⟩ with heap:=(World.holding Tryz.prog os ⟨#[.cells #[.string wS] 265],#[],[]⟩).heap.modify 0 fun | .cells _ t frozen => .cells #[.iface 240 (.pointer (some ⟨((World.holding Tryz.prog default ⟨#[],#[],[]⟩).heap.size),0,none⟩))] t frozen|o=>o }:World) #[.agg #[.int .i64 0,.int .i64 0,.slice none 0 0,.int .i64 0,.int .i64 0,.slice none 0 0,.slice none 0 0,.slice none 0 0,.int .i64 0]] 8 rfl (by kernel_rfl) (by kernel_rfl) (by kernel_rfl) (by kernel_rfl) (by kernel_rfl) (uw os _)) ?_
 intro W base args ds gs before hval0 hW _ _ hL _;have hval:∀(j:Nat) t v,Tryz.f3.params[j]? = some t→args[j]? = some v→Value.okWide Tryz.prog W .any base t v:=hval0
 have hW':=hW;obtain⟨p,q,hA0,hV0,rfl,hfz,hnd⟩:=hW;have hA:DataW.TrodAll enc Tryz.prog W 0 (fun _=>true) true Tryz.f3.params.toList args.toList ds p:=hA0;have hV:DataW.TrodVars enc Tryz.prog W (fun _=>true) ["loop.example/g00337/impl.errWrongHeap"] gs q:=hV0;rw[Tryz.params3]at hA hval;obtain⟨v0,vs0,d0,ds0,p0,q0,hargs,rfl,rfl,h0,r0⟩:=trodAll_cons hA;obtain⟨rfl,rfl,rfl⟩:=trodAll_nil r0;obtain rfl:args=#[v0]:=by cases args;simp_all
 obtain⟨a0,hv0⟩:=yu (F9 hL);obtain⟨rfl,rfl⟩:=hV.unique (wF enc hv0 trivial _);have hG:Gp W a0:=⟨by simpa using World.var?_cell nW hv0 0⟩;have k0:=h0;have lt0:∀x ∈ p0,x.block<W.heap.size:=by obtain⟨m,hm⟩:=k0;exact DataW.trod_lt m _ _ _ hm
 obtain⟨vr,vo,vm,vs,G,rfl,w0,i0⟩:=Cz (ti:=2) (tl:=22) Tryz.underlying24 (by kernel_rfl) (by kernel_rfl) (by kernel_rfl) rfl rfl rfl rfl rfl rfl rfl rfl rfl rfl rfl rfl rfl rfl rfl rfl rfl rfl Tryz.underlying2 Tryz.underlying22 (hval 0 24 v0 rfl rfl) h0;clear hA0 hval0 hV0;refine (walk vr vo vm vs G W hG w0 i0).mono fun e W' ⟨he,bel⟩ => ?_
 subst he;exact⟨_,rfl,_,_,_,[],_,[.cell 0 0],hW',trodAll_mk1 (shut_bool Tryz.underlying4 _),(trodAll_cons_mk (Below.trod laidOut (by kernel_rfl) (of_decide_eq_true (by kernel_rfl)) k0 bel lt0) trodAll_mk0),wF enc (Ds hv0 bel) trivial _,bel.frame _,fun h=>by cases h⟩
theorem over:Rows.fnExactGrievedRow.holds Tryz.pinned (OpenSpec.ofChange Rows.fnExactGrievedSpec):=
 OpenClaim.holds_of_wide 3 Tryz.f3 rfl rfl rfl rfl rfl rfl rfl ⟨rfl,rfl,rfl,rfl,rfl⟩ rfl rfl rfl rfl rfl (by kernel_rfl) Tryz.func3 (by kernel_rfl)
  (of_decide_eq_true (by kernel_rfl)) (by unfold Func.isWrapper;first|(rw[if_pos (by decide +kernel)];kernel_rfl)|(rw[if_neg (by decide +kernel)];exact⟨rfl,rfl⟩))
  (fun os started H enc _=>lifted os started H enc)
theorem proved:Rows.FnExactGrievedCardSaid:=
 Claim7.holds_tied_plain_at .later [] [.sentinel] true Rows.fnExactGrievedCard.stood.harness true
  over (fun _ h=>by cases h) (by kernel_rfl) (fun _ h=>by cases h) fnExactGrieved_row_tie rfl ⟨rfl,rfl⟩ (by kernel_rfl) rfl
  (fun f fn hf hfn=>by
   obtain rfl:f=3:=Option.some.inj ((show Tryz.prog.funcNamed "loop.example/g00337/laws.FnExactGrieved" = some 3 by kernel_rfl).symm.trans hf) |>.symm
   obtain rfl:fn=Tryz.f3:=(Option.some.inj (Tryz.func3.symm.trans hfn)).symm
   exact⟨by kernel_rfl,fun j t ht=>by
    rw[Tryz.params3]at ht
    have h3:t=24:=by
     rcases j with _|j
     ·simpa using ht.symm
     ·simp at ht
    subst h3;exact (show Tryz.prog.wantsStandIn 24=false by kernel_rfl)⟩)
  (by kernel_rfl)
#print axioms proved
end Go.Proofs.YtocidankimefpaaGreatDoor.fnExactGrieved
