/-
  Chapter 10 as the program has it: an object's number.
  Made from the template ShowI2.
-/
import Derived.Test.YtkiognecebgaiaaGreatDoorM18
namespace Go.Proofs.YtkiognecebgaiaaGreatDoor.hp
open Go.RowKit rows heads words walks Go.Maps
set_option maxRecDepth 100000
set_option linter.unusedVariables false
set_option linter.unusedSimpArgs false
def metE (es:List Pd) (d:Pd):List Pd:=if d.pl ∈ es.map Pd.pl then es else es++[d]
theorem metE_pl (es:List Pd) (d:Pd):(metE es d).map Pd.pl=meet (es.map Pd.pl) (some d.pl):=by
 unfold metE meet
 simp only
 split
 ·rfl
 ·rw[List.map_append];rfl
theorem idM_met {M:List Int} {p:Int} (h:p ∈ M):idM M p=(idxM M p:Int)+1:=if_pos h
set_option maxHeartbeats 16000000 in
theorem idOf_any {W0:World} {base C mb:Nat} {up:Int} {v:Value} {W:World} {es:List Pd} {vm:Value} (h:Sh W0 base C mb up v W es vm) (hl:es.length≤1000) {ds' df dc dh:Int} {dp dm:Bool} {sa:Option Addr} {sn sc:Nat} {dl:Int} (hd:I64 dl) :
    Calls Tryz.prog 157 #[.pointer (some ⟨C,0,none⟩),pdv ⟨ds',df,dc,dh,dp,dm,.slice sa sn sc,dl⟩] W fun e w'=>e = .returned (.int .i64 (idM (meet (es.map Pd.pl) (some dl)) dl))∧∃vm',SR W0 base C mb up v W vm w' (metE es ⟨ds',df,dc,dh,dp,dm,.slice sa sn sc,dl⟩) vm':=by
 have B0:Below W.heap.size W (W.alloc (pdb ⟨ds',df,dc,dh,dp,dm,.slice sa sn sc,dl⟩)):=(Below.refl _ _).alloc (Nat.le_refl _) _
 have Q0:=heap_alloc_new W (pdb ⟨ds',df,dc,dh,dp,dm,.slice sa sn sc,dl⟩)
 have hX0:W.heap.size<(W.alloc (pdb ⟨ds',df,dc,dh,dp,dm,.slice sa sn sc,dl⟩)).heap.size:=by simp
 by_cases hin:dl ∈ es.map Pd.pl
 ·have e1:metE es ⟨ds',df,dc,dh,dp,dm,.slice sa sn sc,dl⟩=es:=if_pos hin
  have e2:meet (es.map Pd.pl) (some dl)=es.map Pd.pl:=if_pos hin
  rw[e1,e2]
  have hid:=idM_met hin
  have HH:Hid _:=h
  have HHD:Hid _:=hd
  clear e1 e2 h hd hin
  have hc:¬idM (es.map Pd.pl) dl=0:=by omega
  have HLK:Hid (∀V,Below W.heap.size W V→(Instr.lookup 74 (.map (some mb)) (.int .i64 dl) false).run Tryz.prog V = .ok (.int .i64 (idM (es.map Pd.pl) dl)) V):=fun V hV=>(HH.out.below hV).look HHD.out
  generalize idM (es.map Pd.pl) dl=c at *
  have hc':(c==0)=false:=by simpa using hc
  clear hid
  have HB0:Hid _:=B0
  have HQ0:Hid _:=Q0
  obtain⟨⟨_,_,z2,z3⟩,_⟩:=shb_cells (HH.out.below B0).blk'
  obtain⟨⟨_,_,_,_,_,_,_,p7⟩,_⟩:=pdb_cells Q0
  simp only at p7
  clear B0 Q0 hX0
  go_enter Tryz.func157,Tryz.ntmps157
  go_upto_region 1 with fail
  generalize W.alloc (pdb ⟨ds',df,dc,dh,dp,dm,.slice sa sn sc,dl⟩)=X at *
  have lk:∀q,(Instr.lookup 74 (.map (some mb)) (.int .i64 dl) false).run Tryz.prog (X.drewN q) = .ok (.int .i64 c) (X.drewN q):=fun q=>HLK.out _ (HB0.out.trans ((bel_of_drewN ⟨q,rfl⟩).mono HB0.out.size))
  go_quiet (fail)
  have HB1:Hid _:=HB0.out.trans ((bel_of_drewN ⟨nq,rfl⟩).mono HB0.out.size)
  have y2:(X.drewN nq).cell? ⟨C,2,none⟩=some (.map (some mb)):=z2
  have y7:(X.drewN nq).cell? ⟨W.heap.size,7,none⟩=some (.int .i64 dl):=p7
  clear lk z2 z3 p7
  generalize X.drewN nq=Y at *
  have lk:∀q,(Instr.lookup 74 (.map (some mb)) (.int .i64 dl) false).run Tryz.prog (Y.drewN q) = .ok (.int .i64 c) (Y.drewN q):=fun q=>HLK.out _ (HB1.out.trans ((bel_of_drewN ⟨q,rfl⟩).mono HB1.out.size))
  go_upto_region 4 with fail
  go_quiet (fail)
  go_wp2_with fail
  go_ret
  exact⟨rfl,_,((SR.refl (HH.out.below HB1.out)).ahead HB1.out).below (bel_of_drewN ⟨_,rfl⟩)⟩
 ·have e1:metE es ⟨ds',df,dc,dh,dp,dm,.slice sa sn sc,dl⟩=es++[⟨ds',df,dc,dh,dp,dm,.slice sa sn sc,dl⟩]:=if_neg hin
  have e2:meet (es.map Pd.pl) (some dl)=es.map Pd.pl++[dl]:=if_neg hin
  rw[e1,e2]
  have hid:idM (es.map Pd.pl) dl=0:=if_neg hin
  have HID:Hid (idM (es.map Pd.pl++[dl]) dl=(es.length:Int)+1):=by show _=_;rw[idM_new hin,List.length_map]
  have HH:Hid _:=h
  have HHD:Hid _:=hd
  have HIN:Hid _:=hin
  have HO:Hid _:=h.own
  obtain⟨ma,mc,hvm⟩:=pds_slice (ownP_at h.own)
  subst hvm
  have hbz:=h.bz
  have HSD:Hid (SlicesP [(⟨ds',df,dc,dh,dp,dm,.slice sa sn sc,dl⟩:Pd)]):=fun x hx=>⟨sa,sn,sc,by have e:x=_:=List.mem_singleton.1 hx;rw[e]⟩
  have HLK:Hid (∀V,Below W.heap.size W V→(Instr.lookup 74 (.map (some mb)) (.int .i64 dl) false).run Tryz.prog V = .ok (.int .i64 0) V):=fun V hV=>by
   have:=(HH.out.below hV).look HHD.out
   rwa [hid]at this
  clear e1 e2 h hd hin hid
  have HB0:Hid _:=B0
  have HQ0:Hid _:=Q0
  obtain⟨⟨_,_,z2,z3⟩,zf⟩:=shb_cells (HH.out.below B0).blk'
  obtain⟨⟨p0,p1,p2,p3,p4,p5,p6,p7⟩,_⟩:=pdb_cells Q0
  simp only at p0 p1 p2 p3 p4 p5 p6 p7
  clear B0 Q0
  have HX0:Hid _:=hX0
  clear hX0
  go_enter Tryz.func157,Tryz.ntmps157
  go_upto_region 1 with fail
  generalize W.alloc (pdb ⟨ds',df,dc,dh,dp,dm,.slice sa sn sc,dl⟩)=X at *
  have lk:∀q,(Instr.lookup 74 (.map (some mb)) (.int .i64 dl) false).run Tryz.prog (X.drewN q) = .ok (.int .i64 0) (X.drewN q):=fun q=>HLK.out _ (HB0.out.trans ((bel_of_drewN ⟨q,rfl⟩).mono HB0.out.size))
  go_quiet (fail)
  have BY:Below W.heap.size W (X.drewN nq).drew:=(HB0.out.trans ((bel_of_drewN ⟨nq,rfl⟩).mono HB0.out.size)).drew
  have HQY:Hid ((X.drewN nq).drew.heap[W.heap.size]? = some (pdb ⟨ds',df,dc,dh,dp,dm,.slice sa sn sc,dl⟩)):=HQ0.out
  have hXY:W.heap.size<(X.drewN nq).drew.heap.size:=HX0.out
  have y2:(X.drewN nq).drew.cell? ⟨C,2,none⟩=some (.map (some mb)):=z2
  have y3:(X.drewN nq).drew.cell? ⟨C,3,none⟩=some (.slice ma es.length mc):=z3
  have q0:(X.drewN nq).drew.cell? ⟨W.heap.size,0,none⟩=some (.int .i64 ds'):=p0
  have q1:(X.drewN nq).drew.cell? ⟨W.heap.size,1,none⟩=some (.int .i64 df):=p1
  have q2:(X.drewN nq).drew.cell? ⟨W.heap.size,2,none⟩=some (.int .i64 dc):=p2
  have q3:(X.drewN nq).drew.cell? ⟨W.heap.size,3,none⟩=some (.int .i64 dh):=p3
  have q4:(X.drewN nq).drew.cell? ⟨W.heap.size,4,none⟩=some (.bool dp):=p4
  have q5:(X.drewN nq).drew.cell? ⟨W.heap.size,5,none⟩=some (.bool dm):=p5
  have q6:(X.drewN nq).drew.cell? ⟨W.heap.size,6,none⟩=some (.slice sa sn sc):=p6
  have q7:(X.drewN nq).drew.cell? ⟨W.heap.size,7,none⟩=some (.int .i64 dl):=p7
  have HBY:Hid _:=BY
  clear lk z2 z3 zf p0 p1 p2 p3 p4 p5 p6 p7 BY HQ0 HX0 HB0 HLK
  go_upto_region 2 with fail
  generalize X.drewN nq=Y at *
  have HAFT:Hid (∀va vn vc w6,OwnP w6 base (.slice va vn vc) (es++[⟨ds',df,dc,dh,dp,dm,.slice sa sn sc,dl⟩])→Ch (blk (.slice ma es.length mc)) (Y.drew.alloc (pdb ⟨ds',df,dc,dh,dp,dm,.slice sa sn sc,dl⟩)) w6→(∀k ∈ blk (.slice va vn vc),k ∈ blk (.slice ma es.length mc)∨(Y.drew.alloc (pdb ⟨ds',df,dc,dh,dp,dm,.slice sa sn sc,dl⟩)).heap.size≤k)→w6.cell? ⟨C,3,none⟩=some (.slice ma es.length mc)∧w6.frozen? ⟨C,3,none⟩=false∧((w6.setCell ⟨C,3,none⟩ (.slice va vn vc)).cell? ⟨C,2,none⟩=some (.map (some mb))∧(w6.setCell ⟨C,3,none⟩ (.slice va vn vc)).cell? ⟨C,3,none⟩=some (.slice va vn vc)∧(w6.setCell ⟨C,3,none⟩ (.slice va vn vc)).cell? ⟨W.heap.size,7,none⟩=some (.int .i64 dl))∧vn=es.length+1∧∃W8,(Instr.mapUpdate 74 (.map (some mb)) (.int .i64 dl) (.int .i64 ((es.length:Int)+1))).run Tryz.prog (w6.setCell ⟨C,3,none⟩ (.slice va vn vc)).drew = .ok () W8∧W8.cell? ⟨C,2,none⟩=some (.map (some mb))∧W8.cell? ⟨W.heap.size,7,none⟩=some (.int .i64 dl)∧SR W0 base C mb up v W (.slice ma es.length mc) W8 (es++[⟨ds',df,dc,dh,dp,dm,.slice sa sn sc,dl⟩]) (.slice va vn vc)∧∀q,(Instr.lookup 74 (.map (some mb)) (.int .i64 dl) false).run Tryz.prog (W8.drewN q) = .ok (.int .i64 ((es.length:Int)+1)) (W8.drewN q)):=by
   intro va vn vc w6 h1 h2 h3
   have BZ:Below W.heap.size W (Y.drew.alloc (pdb ⟨ds',df,dc,dh,dp,dm,.slice sa sn sc,dl⟩)):=HBY.out.alloc HBY.out.size _
   obtain⟨b6,k6,W8,hrun,sr,k8⟩:=HH.out.more (d:=⟨ds',df,dc,dh,dp,dm,.slice sa sn sc,dl⟩) HHD.out HSD.out HIN.out hl BZ h1 h2 h3
   obtain⟨⟨_,_,_,u3⟩,uf⟩:=shb_cells b6
   obtain⟨⟨_,_,t2,t3⟩,_⟩:=shb_cells (shb_set b6 (.slice va vn vc))
   have hP1:W.heap.size<(Y.drew.alloc (pdb ⟨ds',df,dc,dh,dp,dm,.slice sa sn sc,dl⟩)).heap.size:=Nat.lt_of_lt_of_le hXY (by simp)
   have hPb:(Y.drew.alloc (pdb ⟨ds',df,dc,dh,dp,dm,.slice sa sn sc,dl⟩)).heap[W.heap.size]? = some (pdb ⟨ds',df,dc,dh,dp,dm,.slice sa sn sc,dl⟩):=(((Below.refl Y.drew.heap.size Y.drew).alloc (Nat.le_refl _) _).block _ hXY).trans HQY.out
   have hPC:W.heap.size≠C:=fun e=>by have:=lt_of_block HH.out.blk';omega
   have hP6:(w6.setCell ⟨C,3,none⟩ (.slice va vn vc)).heap[W.heap.size]? = some (pdb ⟨ds',df,dc,dh,dp,dm,.slice sa sn sc,dl⟩):=(Below.heap_setCell _ _ _ _ hPC).trans ((k6 _ (Nat.le_refl _) hP1).trans hPb)
   have hP8:W8.heap[W.heap.size]? = some (pdb ⟨ds',df,dc,dh,dp,dm,.slice sa sn sc,dl⟩):=(k8 _ (Nat.le_refl _) hP1).trans hPb
   have hn:vn=es.length+1:=by
    obtain⟨_,_,e⟩:=pds_slice (ownP_at h1)
    injection e with _ e _
    rw[e,List.length_append];rfl
   refine⟨u3,uf 3,⟨t2,t3,(pdb_cells hP6).1.2.2.2.2.2.2.2⟩,hn,W8,hrun,(shb_cells sr.sh.blk').1.2.2.1,(pdb_cells hP8).1.2.2.2.2.2.2.2,sr,fun q => ?_⟩
   have:=(sr.sh.below (bel_of_drewN ⟨q,rfl⟩)).look (p:=dl) HHD.out
   rw[List.map_append,show List.map Pd.pl [(⟨ds',df,dc,dh,dp,dm,.slice sa sn sc,dl⟩:Pd)]=[dl] from rfl,HID.out]at this
   exact this
  have HO6:Hid (OwnP (Y.drew.alloc (pdb ⟨ds',df,dc,dh,dp,dm,.slice sa sn sc,dl⟩)) base (.slice ma es.length mc) es):=ownP_below HO.out (HBY.out.alloc HBY.out.size _)
  have HV6:Hid ((Y.drew.alloc (pdb ⟨ds',df,dc,dh,dp,dm,.slice sa sn sc,dl⟩)).heap[Y.drew.heap.size]? = some (pdb ⟨ds',df,dc,dh,dp,dm,.slice sa sn sc,dl⟩)):=heap_alloc_new _ _
  have HZ6:Hid (base≤(Y.drew.alloc (pdb ⟨ds',df,dc,dh,dp,dm,.slice sa sn sc,dl⟩)).heap.size):=Nat.le_trans hbz (HBY.out.alloc HBY.out.size _).size
  have HEL:Hid (es.length≤1000000):=by show _≤_;omega
  have y3':(Y.alloc (pdb ⟨ds',df,dc,dh,dp,dm,.slice sa sn sc,dl⟩)).cell? ⟨C,3,none⟩=some (.slice ma es.length mc):=(((Below.refl Y.drew.heap.size Y.drew).alloc (Nat.le_refl _) (pdb ⟨ds',df,dc,dh,dp,dm,.slice sa sn sc,dl⟩)).cell (p:=⟨C,3,none⟩) (Nat.lt_trans (lt_of_block HH.out.blk') hXY)).trans y3
  clear HBY HQY HH HHD HIN HO y2
  go_region_law (first
   |(refine step_app1P rfl (.tmp 17) (.tmp 19) rfl base (.slice ma es.length mc) es rfl HO6.out Y.drew.heap.size ⟨ds',df,dc,dh,dp,dm,.slice sa sn sc,dl⟩ rfl HV6.out HSD.out HEL.out HZ6.out ?_;intro va vn vc w6 h1 h2 h3;obtain⟨u3,uf,⟨t2,t3,t7⟩,hvn,W8,hrun,s2,s7,sr,lk8⟩:=HAFT.out va vn vc w6 h1 h2 h3;have HSR:Hid _:=sr;clear sr h1 h2 h3 HAFT HO6 HV6 HZ6;subst hvn)
   |fail)
  all_goals go_upto_region 3 with fail
  all_goals go_region_law (fail)
  all_goals go_upto_region 4 with fail
  all_goals go_quiet (fail)
  all_goals go_wp2_with fail
  all_goals go_ret
  all_goals exact⟨by rw[HID.out];rfl,_,HSR.out.below (bel_of_drewN ⟨_,rfl⟩)⟩
end Go.Proofs.YtkiognecebgaiaaGreatDoor.hp
