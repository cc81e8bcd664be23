/-
  Chapter 18 as the program has it: Replaced.
  Made from the template RepI6.
-/
import Derived.Test.YtemlagfaaibenaaGreatRepI5
namespace Go.Proofs.YtemlagfaaibenaaGreat.hp
open Go.RowKit rows heads words walks region
set_option maxRecDepth 100000
set_option linter.unusedVariables false
set_option linter.unusedSimpArgs false
theorem res_hc7 {fn:Func} {tmps:Array Value} {X:World} {P6:Nat} {H:Hp} {vr vo vm vs:Value} {c:Int} (hf:fn.results=#[.cell 6 27,.tmp 7]) (h2:tmps[6]? = some (.pointer (some ⟨P6,0,none⟩))) (h3:tmps[7]? = some (.int .i64 c))
    (hX:X.heap[P6]? = some (hpb H vr vo vm vs)):(results fn tmps).run Tryz.prog X = .ok (.tuple #[hpv H vr vo vm vs,.int .i64 c]) X:=by
 obtain⟨k0,k1,k2,k3,k4,k5,k6,k7,k8⟩:=hpb_cells hX
 clear hX
 simp[results,hf,h2,h3,go_sem,k0,k1,k2,k3,k4,k5,k6,k7,k8]
set_option maxHeartbeats 16000000 in
theorem implReplaced {H:Hp} (hI:HpI H) (a b:Int) (w:World) (vr vo vm vs:Value) (h:HpAt w vr vo vm vs H) (hs:hpSize H≤1048576) :
    Calls Tryz.prog 19 #[hpv H vr vo vm vs,.int .i64 a,.int .i64 b] w fun e w'=>∃(o' r' m' s':Value),e = .returned (.tuple #[hpv (repA H a b) o' r' m' s',.int .i64 (repC H a b)])∧OwnH w' w.heap.size o' r' m' s' (repA H a b)∧Below w.heap.size w w':=by
 obtain⟨a1,c1,a2,c2,a3,c3,a4,c4,e1,e2,e3,e4⟩:=hpAt_slices h
 subst e1 e2 e3 e4
 have B0:Below w.heap.size w (w.alloc (hpb H (.slice a1 H.row.length c1) (.slice a2 H.roots.length c2) (.slice a3 H.mourned.length c3) (.slice a4 H.seen.length c4))):=(Below.refl _ _).alloc (Nat.le_refl _) _
 have B1:=B0.alloc B0.size (hpb ⟨0,0,[],0,0,[],[],[],0⟩ (.slice none 0 0) (.slice none 0 0) (.slice none 0 0) (.slice none 0 0))
 have T0:=heap_alloc2_old w (hpb H (.slice a1 H.row.length c1) (.slice a2 H.roots.length c2) (.slice a3 H.mourned.length c3) (.slice a4 H.seen.length c4)) (hpb ⟨0,0,[],0,0,[],[],[],0⟩ (.slice none 0 0) (.slice none 0 0) (.slice none 0 0) (.slice none 0 0))
 have T1:=heap_alloc2_new w (hpb H (.slice a1 H.row.length c1) (.slice a2 H.roots.length c2) (.slice a3 H.mourned.length c3) (.slice a4 H.seen.length c4)) (hpb ⟨0,0,[],0,0,[],[],[],0⟩ (.slice none 0 0) (.slice none 0 0) (.slice none 0 0) (.slice none 0 0))
 have BE:=becomeRep_any (hpAt_below h B1) hs hI a b
 clear h hs hI B0
 unfold BecR at BE
 generalize repA H a b=R at *
 generalize repC H a b=C at *
 go_enter Tryz.func19,Tryz.ntmps19
 go_upto_region 1 with fail
 generalize hV:(w.alloc (Obj.cells _ _)).alloc (Obj.cells _ _)=V0
 have hV0:(w.alloc (hpb H (.slice a1 H.row.length c1) (.slice a2 H.roots.length c2) (.slice a3 H.mourned.length c3) (.slice a4 H.seen.length c4))).alloc (hpb ⟨0,0,[],0,0,[],[],[],0⟩ (.slice none 0 0) (.slice none 0 0) (.slice none 0 0) (.slice none 0 0))=V0:=hV
 rw[hV0]at BE T0 T1 B1
 clear hV hV0
 obtain⟨z0,z1,z2,z3,z4,z5,z6,z7,z8⟩:=hpb_cells T0
 have HT1:Hid _:=T1
 have HB1:Hid _:=B1
 clear T0 T1 B1
 go_wp2_with (go_at_call 39;refine BE.mono ?_;clear BE z0 z1 z2 z3 z4 z5 z6 z7 z8;rintro e w2 ⟨o',r',m',s',rfl,O2,b2⟩;obtain⟨d1,g1,d2,g2,d3,g3,d4,g4,e1,e2,e3,e4⟩:=hpAt_slices (ownH_at O2);subst e1 e2 e3 e4;have HO2:Hid _:=O2;have HB2:Hid _:=b2;have HN1:Hid _:=(b2.block _ (lt_of_block HT1.out)).trans HT1.out;obtain⟨y0,y1,y2,y3,y4,y5,y6,y7,y8⟩:=hpb_cells HN1.out;obtain⟨f0,f1,f2,f3,f4,f5,f6,f7,f8⟩:=hpb_froz HN1.out;clear O2 b2)
 have N8:=nine_sets HN1.out (.int .i64 R.half) (.int .i64 R.old) (.slice d1 R.row.length g1) (.int .i64 R.side) (.int .i64 R.top) (.slice d2 R.roots.length g2) (.slice d3 R.mourned.length g3) (.slice d4 R.seen.length g4) (.int .i64 R.seed)
 have C8:=nine_sets_ch w2 (w.heap.size+1) (.int .i64 R.half) (.int .i64 R.old) (.slice d1 R.row.length g1) (.int .i64 R.side) (.int .i64 R.top) (.slice d2 R.roots.length g2) (.slice d3 R.mourned.length g3) (.slice d4 R.seen.length g4) (.int .i64 R.seed)
 have hs1:=HB1.out.size
 have hl:=lt_of_block HT1.out
 have BW:Below w.heap.size w w2:=HB1.out.trans (HB2.out.mono HB1.out.size)
 exact bodyPost_ret (res_hc7 rfl rfl rfl N8) rfl ⟨_,_,_,_,rfl,ownH_base (ownH_ch HO2.out C8 (fun k hk=>by have:=(ownH_lt HO2.out k hk).1;simp;omega)) hs1,BW.trans (below_ch C8 BW.size (fun k hk=>by simp at hk;omega))⟩
end Go.Proofs.YtemlagfaaibenaaGreat.hp
