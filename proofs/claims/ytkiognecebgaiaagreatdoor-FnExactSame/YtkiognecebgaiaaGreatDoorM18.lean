/-
  Chapter 10 as the specification has it: Shown. Chapter 19 as lists: the graph that is shown is right where it may be; what Same answers. Chapter 9 as the program has it: a heap gone through, HeapOk and Young. Chapter 10 as the program has it: Follow. Chapter 10 as the program has it: HashOf and Clas
-/
import Derived.Test.YtkiognecebgaiaaGreatDoorShowS3
import Derived.Test.YtkiognecebgaiaaGreatDoorShowS
import Derived.Test.YtkiognecebgaiaaGreatDoorM10
import Derived.Test.YtkiognecebgaiaaGreatDoorM16
import Derived.Test.YtkiognecebgaiaaGreatDoorM12
import Derived.Test.YtkiognecebgaiaaGreatDoorM15
import Derived.Test.YtkiognecebgaiaaGreatDoorCanI5
import Derived.Test.YtkiognecebgaiaaGreatDoorHeapI20
import Derived.WalkMore
import Derived.Test.YtkiognecebgaiaaGreatDoorM17
import Derived.Deep.RegionLaw
import Derived.Maps.AppendAt
import Derived.BigQuiet
namespace Go.Proofs.YtkiognecebgaiaaGreatDoor.hp
open Go.RowKit rows heads words walks region
set_option maxRecDepth 100000
set_option linter.unusedVariables false
set_option linter.unusedSimpArgs false
def GrA (w:World) (G:gr.Gr) (e:Ending) (w':World):Prop:=∃o r m ms,e = .returned (gr.gv o r m G.next G.seed)∧gr.OwnG w' w.heap.size o r m ms G∧Below w.heap.size w w'
theorem gr_zero {w w':World} (h:Below w.heap.size w w'):GrA w gr.gr0 (.returned (gr.gv (.slice none 0 0) (.slice none 0 0) (.slice none 0 0) 0 0)) w':=⟨_,_,_,[],rfl,gr.ownG_zero _ _,h⟩
theorem shown_wrong {H:Hp} (h:heapOk H=false):shownG H=gr.gr0:=by unfold shownG;rw[if_neg (by rw[h];rintro⟨a,_⟩;cases a)];rfl
theorem shown_many {H:Hp} (h:200<(ordH H).length):shownG H=gr.gr0:=by unfold shownG;rw[if_neg (by rintro⟨_,a⟩;omega)];rfl
theorem shown_yes {H:Hp} (h:heapOk H=true) (h2:(ordH H).length≤200):shownG H=grS H (ordH H):=by unfold shownG;rw[if_pos ⟨h,h2⟩]
end Go.Proofs.YtkiognecebgaiaaGreatDoor.hp
namespace Go.Proofs.YtkiognecebgaiaaGreatDoor.hp
open Go.RowKit rows heads words walks
set_option maxRecDepth 100000
set_option linter.unusedVariables false
set_option linter.unusedSimpArgs false
theorem getD_obS {H:Hp} {R:List Int} {i:Nat} (hi:i<R.length):((List.range R.length).map (obS H R)).getD i gr.obD=obS H R i:=by
 rw[List.getD_eq_getElem?_getD,List.getElem?_map,List.getElem?_range hi]
 rfl
theorem atI_obS {H:Hp} {R:List Int} {i:Nat} (hi:i<R.length):gr.atI ((List.range R.length).map (obS H R)) ((i:Int)+1)=(i:Int):=by
 refine gr.atI_at (k:=i) (by simpa using hi) ?_ (fun t ht => ?_)
 ·rw[getD_obS hi];rfl
 ·rw[getD_obS (by omega)]
  show ¬((t:Int)+1=(i:Int)+1)
  omega
theorem idx_lt {R:List Int} {a:Int} (h:a ∈ R):idxM R a<R.length:=List.findIdx_lt_length_of_exists ⟨a,h,by simp⟩
theorem refOk_refW {H:Hp} {R:List Int} {x:Int} (h:∀a,tgt H x=some a→a ∈ R):gr.refOk ((List.range R.length).map (obS H R)) (refW H R x)=true:=by
 unfold refW
 split
 ·rename_i hI
  unfold gr.refOk
  rw[if_neg (show ¬(1:Int)=0 by decide),if_pos rfl]
  have hb : -100000≤iv (fol H x)∧iv (fol H x)≤100000:=by
   unfold iv
   rw[if_pos hI]
   unfold isI at hI
   simp only[Bool.and_eq_true,beq_iff_eq,decide_eq_true_eq]at hI
   omega
  simp[inR,hb.1,hb.2]
 ·split
  ·rename_i hA
   have hm:=h _ (by unfold tgt;rw[if_pos hA])
   unfold gr.refOk
   rw[if_neg (show ¬(2:Int)=0 by decide),if_neg (show ¬(2:Int)=1 by decide),atI_obS (idx_lt hm)]
   simp
  ·unfold gr.refOk
   rw[if_pos rfl]
   rfl
theorem folAG {H:Hp} {ps:List Int} (R:Rt H ps):∀(n:Nat) (x:Int),rk H x≤n→wordIn H ps x=true→isA x=true→isA (fol H x)=true
 |n,x,hr,hx,hA=>by
  cases e:toNote H x
  ·rw[fol_stop e];exact hA
  ·obtain⟨_,h2,h3,h4,h5⟩:=R.note hx e
   rw[h4]
   match n,hr with
   |0,hr=>omega
   |n+1,hr=>exact folAG R n _ (by omega) h2 h3
theorem chunk_hok {xs:List Int} {j:Nat} (h:chunk xs j≠0):hok (uS (xs.getD j 0)) (uF (xs.getD j 0)) (uC (xs.getD j 0)) (uH (xs.getD j 0)) (uP (xs.getD j 0)) (uM (xs.getD j 0))=true:=by
 unfold chunk at h
 split at h
 ·rename_i h0
  rw[Bool.and_eq_true]at h0
  have h1:=h0.1
  rw[ok_eq,Bool.and_eq_true]at h1
  unfold uS uF uC uH uP uM
  rw[if_pos h0.1,if_pos h0.1,if_pos h0.1,if_pos h0.1,if_pos h0.1,if_pos h0.1]
  exact h1.2
 ·exact absurd rfl h
theorem grS_rightL {H:Hp} {ps:List Int} (R:Rt H ps) (h200:(ordH H).length≤200):gr.Right (grS H (ordH H)):=by
 have OG:=R.ordH_og
 have N:=(places_facts R.some').1
 have hl:=OG.len R
 have hlen:(grS H (ordH H)).objs.length=(ordH H).length:=by simp[grS]
 have hob:∀i,i<(ordH H).length→∃j:Nat,(ordH H).getD i 0=(j:Int)∧chunk H.row j≠0∧uF (H.row.getD j 0)≠6∧uF (H.row.getD j 0)≠7∧(slotsOf H (j:Int)).length=(uS (H.row.getD j 0)).toNat:=fun i hi=>by
  have hm:(ordH H).getD i 0 ∈ ordH H:=by rw[List.getD_eq_getElem?_getD,List.getElem?_eq_getElem hi];exact List.getElem_mem hi
  obtain⟨h1,h6,h7⟩:=OG.2 _ hm
  obtain⟨j,ej,hjl,hc⟩:=R.plc _ h1
  rw[ej]at h6 h7
  unfold fm at h6 h7
  rw[Int.toNat_natCast]at h6 h7
  have q:=chunk_fits hc h6
  refine⟨j,ej,hc,h6,h7,?_⟩
  unfold slotsOf cnS
  rw[Int.toNat_natCast,if_neg h7,if_neg h6,List.length_take,List.length_drop]
  omega
 refine⟨gr.head_mk ⟨by rw[hlen];omega,by show (H.roots.map _).length=6;rw[List.length_map];exact N.roots,by show (H.mourned.map _).length≤40;rw[List.length_map];exact N.mourned,by show 1≤((ordH H).length:Int)+1;omega,by show ((ordH H).length:Int)+1≤100000;omega,N.seed.1,N.seed.2⟩,fun i hi => ?_,fun i hi k hk => ?_,fun i hi => ?_,fun i hi => ?_⟩
 ·rw[hlen]at hi
  obtain⟨j,ej,hc,h6,h7,hs⟩:=hob i hi
  have hk:=chunk_hok hc
  have hb:=hok_true hk
  show gr.obOk ((List.range (ordH H).length).map (obS H (ordH H))) (((ordH H).length:Int)+1) i=true
  unfold gr.obOk
  rw[getD_obS hi]
  have e1:gr.lastOf ((List.range (ordH H).length).map (obS H (ordH H))) i=(i:Int):=by
   cases i with
   |zero=>rfl
   |succ i=>
    show (((List.range (ordH H).length).map (obS H (ordH H))).getD i gr.obD).id=_
    rw[getD_obS (by omega)]
    rfl
  rw[e1]
  unfold obS
  simp only[ej,Int.toNat_natCast,List.length_map,hs]
  unfold hok at hk ⊢
  rw[if_neg h6]at hk ⊢
  rw[Int.toNat_of_nonneg hb.1,hk]
  simp only[Bool.and_eq_true,Bool.or_eq_true,beq_iff_eq,decide_eq_true_eq]at hk
  have hf2:uF (H.row.getD j 0)≤2:=by omega
  rw[decide_eq_true hf2,decide_eq_true (show (i:Int)<(i:Int)+1 by omega),decide_eq_true (show (i:Int)+1<((ordH H).length:Int)+1 by omega)]
  rfl
 ·rw[hlen]at hi
  show gr.refOk ((List.range (ordH H).length).map (obS H (ordH H))) ((((List.range (ordH H).length).map (obS H (ordH H))).getD i gr.obD).slots.getD k gr.refD)=true
  have hk':k<(((List.range (ordH H).length).map (obS H (ordH H))).getD i gr.obD).slots.length:=hk
  rw[getD_obS hi]at hk' ⊢
  have hk2:k<(slotsOf H ((ordH H).getD i 0)).length:=by
   have:(obS H (ordH H) i).slots.length=(slotsOf H ((ordH H).getD i 0)).length:=by show (List.map _ _).length=_;rw[List.length_map]
   omega
  have e:(obS H (ordH H) i).slots.getD k gr.refD=refW H (ordH H) ((slotsOf H ((ordH H).getD i 0))[k]):=by
   show (List.map (refW H (ordH H)) (slotsOf H ((ordH H).getD i 0))).getD k gr.refD=_
   rw[List.getD_eq_getElem?_getD,List.getElem?_map,List.getElem?_eq_getElem hk2]
   rfl
  rw[e]
  exact refOk_refW (fun a ha=>R.ordH_slot hi _ (List.getElem_mem hk2) a ha)
 ·show gr.refOk ((List.range (ordH H).length).map (obS H (ordH H))) ((H.roots.map (refW H (ordH H))).getD i gr.refD)=true
  have hi':i<H.roots.length:=by rw[N.roots];exact hi
  rw[List.getD_eq_getElem?_getD,List.getElem?_map,List.getElem?_eq_getElem hi']
  exact refOk_refW (fun a ha=>ordH_root (List.mem_append_left _ (List.getElem_mem hi')) ha)
 ·have hi':i<H.mourned.length:=by
    have h2:i<(H.mourned.map (refW H (ordH H))).length:=hi
    rwa [List.length_map]at h2
  show ((H.mourned.map (refW H (ordH H))).getD i gr.refD).1=2∧gr.refOk ((List.range (ordH H).length).map (obS H (ordH H))) ((H.mourned.map (refW H (ordH H))).getD i gr.refD)=true
  rw[List.getD_eq_getElem?_getD,List.getElem?_map,List.getElem?_eq_getElem hi']
  have hmo:=R.mourned
  unfold mournOk at hmo
  rw[List.all_eq_true]at hmo
  have h1:=hmo _ (List.getElem_mem hi')
  rw[Bool.and_eq_true]at h1
  refine⟨?_,refOk_refW (fun a ha=>ordH_root (List.mem_append_right _ (List.getElem_mem hi')) ha)⟩
  show (refW H (ordH H) H.mourned[i]).1=2
  have hA:=folAG R _ _ (Nat.le_refl _) h1.2 h1.1
  unfold refW
  rw[if_neg (by
   intro hI
   unfold isI at hI
   unfold isA at hA
   simp only[Bool.and_eq_true,beq_iff_eq,decide_eq_true_eq]at hI hA
   omega),if_pos hA]
def samB (H:Hp) (G:gr.Gr):Bool:=heapOk H&&(gr.gOk G&&(decide (H.seed=G.seed)&&(decide ((ordH H).length≤200)&&decide (gr.bs (gr.canT (grS H (ordH H)))=gr.bs (gr.canT G)))))
theorem can_gr0:gr.canA gr.gr0=⟨#[]⟩:=by
 unfold gr.canA
 rw[if_neg]
 decide
theorem lineT_pos (ws:List (List UInt8)):gr.lineT ws≠[]:=by
 unfold gr.lineT
 simp
theorem canT_pos (G:gr.Gr):gr.canT G≠[]:=by
 unfold gr.canT
 intro e
 exact lineT_pos _ (List.append_eq_nil_iff.1 e).1
theorem bs_ne {l:List UInt8} (h:l≠[]):gr.bs l≠⟨#[]⟩:=fun e=>h (by
 have:(gr.bs l).data=#[]:=by rw[e]
 simpa using this)
theorem can_yes {G:gr.Gr} (h:gr.gOk G=true):gr.canA G=gr.bs (gr.canT G):=by unfold gr.canA;rw[if_pos h]
theorem can_no {G:gr.Gr} (h:gr.gOk G=false):gr.canA G=⟨#[]⟩:=by unfold gr.canA;rw[if_neg (by rw[h];decide)]
def OpenR (w:World) (a1 a2 a3 a4:Option Addr) (c1 c2 c3 c4:Nat) (H:Hp) (e:Ending) (w':World):Prop:=(heapOk H=false→e = .returned (.tuple #[hov0,.bool false]))∧(heapOk H=true→∃a5 c5,e = .returned (.tuple #[hov H (.slice a1 H.row.length c1) (.slice a2 H.roots.length c2) (.slice a3 H.mourned.length c3) (.slice a4 H.seen.length c4) (2*H.half) (.slice a5 (objsP a1 H).length c5),.bool true])∧OwnP w' w.heap.size (.slice a5 (objsP a1 H).length c5) (objsP a1 H))∧Below w.heap.size w w'
set_option maxHeartbeats 16000000 in
theorem opened_any {w:World} {a1 a2 a3 a4:Option Addr} {c1 c2 c3 c4:Nat} {H:Hp} (h:HpAt w (.slice a1 H.row.length c1) (.slice a2 H.roots.length c2) (.slice a3 H.mourned.length c3) (.slice a4 H.seen.length c4) H) (hs:hpSize H≤1048576) (hI:HpI H) :
    Calls Tryz.prog 104 #[hpv H (.slice a1 H.row.length c1) (.slice a2 H.roots.length c2) (.slice a3 H.mourned.length c3) (.slice a4 H.seen.length c4)] w (OpenR w a1 a2 a3 a4 c1 c2 c3 c4 H):=by
 unfold OpenR
 have HOK:Hid _:=okB_is a1 H
 have HALL:Hid _:=hpX_all h
 have HOB:Hid (∀V,HpAt V (.slice a1 H.row.length c1) (.slice a2 H.roots.length c2) (.slice a3 H.mourned.length c3) (.slice a4 H.seen.length c4) H→Calls Tryz.prog 132 #[hpv H (.slice a1 H.row.length c1) (.slice a2 H.roots.length c2) (.slice a3 H.mourned.length c3) (.slice a4 H.seen.length c4)] V fun e w'=>(openB a1 H=false→e = .returned (.tuple #[hov0,.bool false]))∧(openB a1 H=true→∃a5 c5,e = .returned (.tuple #[hov H (.slice a1 H.row.length c1) (.slice a2 H.roots.length c2) (.slice a3 H.mourned.length c3) (.slice a4 H.seen.length c4) (2*H.half) (.slice a5 (objsP a1 H).length c5),.bool true])∧OwnP w' V.heap.size (.slice a5 (objsP a1 H).length c5) (objsP a1 H))∧Below V.heap.size V w'):=fun V hV=>openedButSeen_any hV hs hI
 have HII:Hid _:=hI
 have HSZ:Hid (H.seen.length≤1048576):=by unfold hpSize at hs;show _≤_;omega
 clear h hs hI
 go_enter Tryz.func104,Tryz.ntmps104
 go_upto_region 1 with fail
 generalize (w.alloc _).alloc _=X at *
 obtain⟨q0,_,hX,_,_⟩:=HALL.out X (Below.refl _ _)
 obtain⟨z0,z1,z2,z3,z4,z5,z6,z7,z8⟩:=hpb_cells q0
 have OX:=HOB.out X hX
 clear q0 hX HOB
 cases ho:openB a1 H
 ·have HO:Hid (heapOk H=false):=by show _=_;rw[←HOK.out];unfold okB;rw[ho];rfl
  have R0:=OX.mono (fun e w' (hh:_∧_∧_)=>(⟨hh.1 ho,hh.2.2⟩:e = .returned (.tuple #[hov0,.bool false])∧Below X.heap.size X w'))
  clear OX ho HOK
  go_upto_region 2 with (go_at_call 132;refine R0.mono ?_;clear R0 z0 z1 z2 z3 z4 z5 z6 z7 z8;rintro e w1 ⟨rfl,b1⟩;have HB1:Hid _:=b1;clear b1)
  have B2:Below w1.heap.size w1 (w1.alloc (hob hz s0 s0 s0 s0 0 s0)):=(Below.refl _ _).alloc (Nat.le_refl _) _
  have HB2:Hid _:=HB1.out.trans (B2.mono HB1.out.size)
  clear B2
  generalize w1.alloc (hob hz s0 s0 s0 s0 0 s0)=Y at *
  go_quiet (fail)
  have HD:Hid (Below Y.heap.size Y (Y.drewN nq)):=bel_of_drewN ⟨_,rfl⟩
  generalize Y.drewN nq=Y1 at *
  obtain⟨_,q1,_,bw,s3⟩:=HALL.out Y1 (HB2.out.trans (HD.out.mono HB2.out.size))
  obtain⟨⟨g0,g1,g2,g3,g4,g5,g6,g7,g8,g9,g10⟩,f0,f1,f2,f3,f4,f5,f6,f7,f8,f9,f10⟩:=hob_cells q1
  have HQ1:Hid _:=q1
  have HBW:Hid _:=bw
  clear q1 bw
  go_wp2_with fail
  exact bodyPost_ret (res_ho rfl rfl rfl (hob_set HQ1.out hz s0 s0 s0 s0 0 s0)) rfl ⟨fun _=>rfl,fun e=>absurd (HO.out.symm.trans e) (by decide),hob_below HBW.out (by omega) hz s0 s0 s0 s0 0 s0⟩
 have R0:=OX.mono (fun e w' (hh:_∧_∧_)=>(⟨hh.2.1 ho,hh.2.2⟩:(∃a5 c5,e = .returned (.tuple #[hov H (.slice a1 H.row.length c1) (.slice a2 H.roots.length c2) (.slice a3 H.mourned.length c3) (.slice a4 H.seen.length c4) (2*H.half) (.slice a5 (objsP a1 H).length c5),.bool true])∧OwnP w' X.heap.size (.slice a5 (objsP a1 H).length c5) (objsP a1 H))∧Below X.heap.size X w'))
 obtain⟨hn,hr,_⟩:=openB_parts ho
 have HO:Hid (heapOk H=decide (H.seen=mustL (2*H.half) (slP H.row) (objsP a1 H))):=by show _=_;rw[←HOK.out];unfold okB;rw[ho];rfl
 have HRA:Hid (∀V v,HpAt V (.slice a1 H.row.length c1) (.slice a2 H.roots.length c2) (.slice a3 H.mourned.length c3) (.slice a4 H.seen.length c4) H→PdsAt V v (objsP a1 H)→RoomsAt V v (objsP a1 H) (slP H.row)):=fun V v h1 h2=>roomsAt_of h1.1 hn hr HII.out.2.1 h2
 clear OX ho HOK hn hr
 go_upto_region 2 with (go_at_call 132;refine R0.mono ?_;clear R0 z0 z1 z2 z3 z4 z5 z6 z7 z8;rintro e w1 ⟨⟨a5,c5,rfl,O1⟩,b1⟩;have HB1:Hid _:=b1;have HO1:Hid _:=O1;clear b1 O1)
 have B2:Below w1.heap.size w1 (w1.alloc (hob H (.slice a1 H.row.length c1) (.slice a2 H.roots.length c2) (.slice a3 H.mourned.length c3) (.slice a4 H.seen.length c4) (2*H.half) (.slice a5 (objsP a1 H).length c5))):=(Below.refl _ _).alloc (Nat.le_refl _) _
 have HB2:Hid _:=HB1.out.trans (B2.mono HB1.out.size)
 have HQ2:Hid _:=heap_alloc_new w1 (hob H (.slice a1 H.row.length c1) (.slice a2 H.roots.length c2) (.slice a3 H.mourned.length c3) (.slice a4 H.seen.length c4) (2*H.half) (.slice a5 (objsP a1 H).length c5))
 have HO2:Hid _:=ownP_below HO1.out B2
 clear B2 HO1
 generalize w1.alloc (hob H (.slice a1 H.row.length c1) (.slice a2 H.roots.length c2) (.slice a3 H.mourned.length c3) (.slice a4 H.seen.length c4) (2*H.half) (.slice a5 (objsP a1 H).length c5))=Y at *
 generalize w1.heap.size=n1 at *
 have HY:Hid (∀V,Below Y.heap.size Y V→V.heap[n1]? = some (hob H (.slice a1 H.row.length c1) (.slice a2 H.roots.length c2) (.slice a3 H.mourned.length c3) (.slice a4 H.seen.length c4) (2*H.half) (.slice a5 (objsP a1 H).length c5))∧V.heap[w.heap.size+1]? = some (hob hz s0 s0 s0 s0 0 s0)∧HpAt V (.slice a1 H.row.length c1) (.slice a2 H.roots.length c2) (.slice a3 H.mourned.length c3) (.slice a4 H.seen.length c4) H∧RoomsAt V (.slice a5 (objsP a1 H).length c5) (objsP a1 H) (slP H.row)∧OwnP V X.heap.size (.slice a5 (objsP a1 H).length c5) (objsP a1 H)∧Below w.heap.size w V∧w.heap.size+2≤V.heap.size):=by
  intro V hV
  obtain⟨_,k1,k2,k3,k4⟩:=HALL.out V (HB2.out.trans (hV.mono HB2.out.size))
  exact⟨(hV.block _ (lt_of_block HQ2.out)).trans HQ2.out,k1,k2,HRA.out V _ k2 (ownP_at (ownP_below HO2.out hV)),ownP_below HO2.out hV,k3,k4⟩
 have HM:Hid (∀V,Below Y.heap.size Y V→Calls Tryz.prog 134 #[rmv (2*H.half) (.slice a5 (objsP a1 H).length c5)] V fun e w'=>∃u,e = .returned u∧rows.Own w' V.heap.size u (mustL (2*H.half) (slP H.row) (objsP a1 H))∧Below V.heap.size V w'):=fun V hV=>by
  obtain⟨_,_,_,r,_⟩:=HY.out V hV
  exact mustSee_any r.pds r.slices (Nat.le_trans r.len (by decide)) r.slots
 have HE:Hid (∀V u,Below Y.heap.size Y V→IntsAt V u (mustL (2*H.half) (slP H.row) (objsP a1 H))→Calls Tryz.prog 133 #[.slice a4 H.seen.length c4,u] V fun e w'=>e = .returned (.bool (heapOk H))∧Below V.heap.size V w'):=fun V u hV hu=>by
  obtain⟨_,_,k2,r,_⟩:=HY.out V hV
  have:=equal_any k2.2.2.2 hu HSZ.out (Nat.le_trans (mustL_len _ _ _) (Nat.le_trans r.len (by decide)))
  rwa [←HO.out]at this
 have sX2:w.heap.size+2≤X.heap.size:=(HALL.out X (Below.refl _ _)).2.2.2.2
 obtain⟨P,hP⟩:∃P,heapOk H=P:=⟨_,rfl⟩
 simp only[hP]at HE
 have HPP:Hid _:=hP
 clear HO HRA HALL HB1 HB2 HQ2 HO2 HII HSZ hP
 obtain⟨qY,_⟩:=HY.out Y (Below.refl _ _)
 obtain⟨⟨m0,m1,m2,m3,m4,m5,m6,m7,m8,m9,m10⟩,_⟩:=hob_cells qY
 clear qY
 go_cut [22] from 11 to 22 (fun v wz=>v = .bool (!P)∧Hid (Below Y.heap.size Y wz))
 case first=>
  have HG:Hid (∀(V w':World),Below V.heap.size V w'→Below Y.heap.size Y V→w'.heap[n1]? = some (hob H (.slice a1 H.row.length c1) (.slice a2 H.roots.length c2) (.slice a3 H.mourned.length c3) (.slice a4 H.seen.length c4) (2*H.half) (.slice a5 (objsP a1 H).length c5))∧Below Y.heap.size Y w'):=by
   intro V w' h1 h2
   have h3:Below Y.heap.size Y w':=h2.trans (h1.mono h2.size)
   exact⟨(HY.out w' h3).1,h3⟩
  go_region_law (first
   |(go_simp;go_at_call 134;refine Calls.mono (HM.out _ ⟨rfl,rfl,rfl,Nat.le_refl _,fun _ _=>rfl⟩) ?_;rintro e w5 ⟨u5,rfl,o5,b5⟩;obtain⟨q5,x5⟩:=HG.out _ _ b5 ⟨rfl,rfl,rfl,Nat.le_refl _,fun _ _=>rfl⟩;obtain⟨⟨p0,p1,p2,p3,p4,p5,p6,p7,p8,p9,p10⟩,_⟩:=hob_cells q5;have HO5:Hid _:=own_ints o5;obtain⟨ua,uc,hu5,_⟩:=own_ints o5;subst hu5;have HX5:Hid _:=x5;clear HM o5 b5 q5 x5)
   |(go_simp;go_at_call 133;refine Calls.mono (HE.out _ _ ⟨HX5.out.os,HX5.out.tape,HX5.out.output,HX5.out.size,HX5.out.block⟩ HO5.out) ?_;rintro e w6 ⟨rfl,b6⟩;have HX6:Hid (Below Y.heap.size Y w6):=(HG.out w5 w6 ⟨b6.os,b6.tape,b6.output,b6.size,b6.block⟩ HX5.out).2;clear HE b6))
  all_goals (go_wp2_with fail)
  all_goals (go_meet;exact⟨rfl,HX6.out⟩)
 obtain⟨rfl,bc⟩:=hcut
 clear m0 m1 m2 m3 m4 m5 m6 m7 m8 m9 m10 HM HE
 obtain⟨qY,q1,_,_,o7,bw,s7⟩:=HY.out wc bc.out
 obtain⟨⟨g0,g1,g2,g3,g4,g5,g6,g7,g8,g9,g10⟩,f0,f1,f2,f3,f4,f5,f6,f7,f8,f9,f10⟩:=hob_cells q1
 have HQ1:Hid _:=q1
 have HBW:Hid _:=bw
 have HO7:Hid _:=o7
 cases P
 ·clear q1 qY bw o7
  go_wp2_with fail
  exact bodyPost_ret (res_ho rfl rfl rfl (hob_set HQ1.out hz s0 s0 s0 s0 0 s0)) rfl ⟨fun _=>rfl,fun e=>absurd (HPP.out.symm.trans e) (by decide),hob_below HBW.out (by omega) hz s0 s0 s0 s0 0 s0⟩
 ·obtain⟨⟨m0,m1,m2,m3,m4,m5,m6,m7,m8,m9,m10⟩,_⟩:=hob_cells qY
  clear q1 qY bw o7
  go_wp2_with fail
  refine bodyPost_ret (res_ho rfl rfl rfl (hob_set HQ1.out H (.slice a1 H.row.length c1) (.slice a2 H.roots.length c2) (.slice a3 H.mourned.length c3) (.slice a4 H.seen.length c4) (2*H.half) (.slice a5 (objsP a1 H).length c5))) rfl ⟨fun e=>absurd (HPP.out.symm.trans e) (by decide),fun _=>⟨a5,c5,rfl,?_⟩,hob_below HBW.out (by omega) H (.slice a1 H.row.length c1) (.slice a2 H.roots.length c2) (.slice a3 H.mourned.length c3) (.slice a4 H.seen.length c4) (2*H.half) (.slice a5 (objsP a1 H).length c5)⟩
  refine ownP_base (row_ch (S:=[w.heap.size+1]) HO7.out (hob_ch _ _ _ _ _ _ _ _ _) (fun k hk => ?_)) (by omega)
  have:=(blk_lt HO7.out k hk).1
  simp
  omega
structure FolP (H:Hp) (ps:List Int) (ds:List Pd) (sl:Pd→List Int):Prop where
 rt:Rt H ps
 note:NoteP ds sl (ntH H) (nxH H)
 word:∀x,holdW ds x=wordIn H ps x
 first:∀i,i<ds.length→(ds.getD i pdD).f=7→(sl (ds.getD i pdD)).getD 0 0=H.row.getD ((ds.getD i pdD).pl.toNat+1) 0
theorem folP_of {a:Option Addr} {H:Hp} (h:heapOk H=true):∃ps,FolP H ps (objsP a H) (slP H.row):=by
 have hr:=(ok_right h).1
 obtain⟨ps,R⟩:=rt_of hr
 rw[←openB_is a H]at hr
 obtain⟨hn,hro,hS,_,_⟩:=openB_parts hr
 have hb:placesB H=some ps:=by
  have:=R.some'
  unfold placesR at this
  split at this
  ·cases this
  ·exact this
 have RM:=rooms_of (a:=a) hn hro hb R.some'
 refine⟨ps,R,noteP_of hn hro hS,RM.word,fun i hi h7 => ?_⟩
 obtain⟨j,e,hc,h6⟩:=objs_in hro _ (mem_getDP hi)
 rw[e]at h7 ⊢
 rw[(slP_note (a:=a) hc h7).2,pdOf_pl,Int.toNat_natCast];rfl
set_option maxHeartbeats 16000000 in
theorem follow_any {w:World} {up:Int} {a:Option Addr} {cap:Nat} {H:Hp} {ps:List Int} {ds:List Pd} {sl:Pd→List Int} (hv:RoomsAt w (.slice a ds.length cap) ds sl) (hF:FolP H ps ds sl) (x:Int) (hx:wordIn H ps x=true) (hb:I64 x) :
    Calls Tryz.prog 203 #[rmv up (.slice a ds.length cap),.int .i64 x] w fun e w'=>e = .returned (.int .i64 (fol H x))∧Below w.heap.size w w':=by
 have B0:Below w.heap.size w (w.alloc (rmb up (.slice a ds.length cap))):=(Below.refl _ _).alloc (Nat.le_refl _) _
 have HALL:Hid (∀V,Below (w.alloc (rmb up (.slice a ds.length cap))).heap.size (w.alloc (rmb up (.slice a ds.length cap))) V→(V.cell? ⟨w.heap.size,0,none⟩=some (.int .i64 up)∧V.cell? ⟨w.heap.size,1,none⟩=some (.slice a ds.length cap))∧Below w.heap.size w V):=by
  intro V hV
  have q0:V.heap[w.heap.size]? = some (rmb up (.slice a ds.length cap)):=(hV.block _ (by simp)).trans (heap_alloc_new w _)
  exact⟨(rmb_cells q0).1,B0.trans (hV.mono B0.size)⟩
 have HLB:Hid (∀V,Below w.heap.size w V→∀x,I64 x→Calls Tryz.prog 181 #[rmv up (.slice a ds.length cap),.int .i64 x] V fun e w'=>(ledB ds x=false→e = .returned (.tuple #[pdv pdD,.bool false]))∧(ledB ds x=true→∃i,i<ds.length∧(ds.getD i pdD).pl=av x∧e = .returned (.tuple #[pdv (ds.getD i pdD),.bool true]))∧Below V.heap.size V w'):=fun V hV x hx=>ledBy_any (pdsAt_below hv.pds hV) hv.slices hv.rise (Nat.le_trans hv.len (by decide)) x hx.1 hx.2
 have HSL:Hid _:=hv.slices
 have HSP:Hid _:=hv.slots
 have HFP:Hid _:=hF
 obtain⟨A,hA⟩:∃A,fol H x=A:=⟨_,rfl⟩
 rw[hA]
 have HA:Hid _:=hA
 have HX:Hid _:=hx
 have HXB:Hid _:=hb
 clear hv hF B0 hA hx hb
 go_enter Tryz.func203,Tryz.ntmps203
 go_wp2_with fail
 generalize w.alloc (rmb up (.slice a ds.length cap))=X at *
 go_step3
 go_wp2_with fail
 go_step3
 go_wp2_with fail
 go_loopw [1,5,6] (fun u _ _ wz=>∃y:Int,u = .int .i64 y∧wordIn H ps y=true∧I64 y∧fol H y=A∧Below X.heap.size X wz) (fun u _ _ _=>rk H (intOf u))
 case atStart=>exact⟨x,rfl,HX.out,HXB.out,HA.out,Below.refl _ _⟩
 case round=>
  obtain⟨y,rfl,hy,hyb,hF,hB⟩:=hrel
  clear HA HX HXB
  have HB:Hid _:=hB
  obtain⟨⟨z0,z1⟩,bw⟩:=HALL.out wr hB
  have LB:=HLB.out wr bw y hyb
  have hw:=HFP.out.word y
  rw[hy]at hw
  cases hl:ledB ds y
  ·have HE:Hid (A=y):=by
     show _=_
     rw[←hF]
     refine fol_stop ?_
     unfold toNote
     unfold ledB at hl
     unfold holdW at hw
     cases e:isA y
     ·rfl
     ·rw[e]at hl hw
      rw[Bool.true_and]at hl
      rw[if_pos rfl,hl]at hw
      cases hw
   have L0:=LB.mono (fun e w' (hh:_∧_∧_)=>(⟨hh.1 hl,hh.2.2⟩:e = .returned (.tuple #[pdv pdD,.bool false])∧Below wr.heap.size wr w'))
   have HBW:Hid _:=bw
   clear LB hl hw hF hy bw hB
   go_upto_region 2 with (go_at_call 181;refine L0.mono ?_;clear L0 z0 z1;rintro e w3 ⟨rfl,b3⟩;have HB3:Hid _:=HBW.out.trans (b3.mono HBW.out.size);clear b3)
   obtain⟨⟨p0,p1,p2,p3,p4,p5,p6,p7⟩,_⟩:=pdb_cells (heap_alloc_new w3 (pdb pdD))
   have HB4:Hid _:=HB3.out.alloc HB3.out.size (pdb pdD)
   generalize w3.alloc (pdb pdD)=Y at *
   go_wp2
   try rw[Exit.noGoto_ret]
   go_ret
   exact⟨by rw[HE.out];rfl,HB4.out⟩
  ·have L0:=LB.mono (fun e w' (hh:_∧_∧_)=>(⟨hh.2.1 hl,hh.2.2⟩:(∃i,i<ds.length∧(ds.getD i pdD).pl=av y∧e = .returned (.tuple #[pdv (ds.getD i pdD),.bool true]))∧Below wr.heap.size wr w'))
   have hAy:isA y=true:=by
    unfold ledB at hl
    rw[Bool.and_eq_true]at hl
    exact hl.1
   have HST:Hid (toNote H y=false→A=y):=fun e=>by rw[←hF];exact fol_stop e
   have HNT:Hid (toNote H y=true→_):=fun e=>HFP.out.rt.note hy e
   have HFY:Hid _:=hF
   have HBW:Hid _:=bw
   have HAY:Hid _:=hAy
   clear LB hl hw hF hy bw hB hAy
   go_upto_region 2 with (go_at_call 181;refine L0.mono ?_;clear L0 z0 z1;rintro e w3 ⟨⟨i,hi,hpl,rfl⟩,b3⟩;have HB3:Hid (Below X.heap.size X w3):=HB.out.trans (b3.mono HB.out.size);obtain⟨sa,sn,sc,hsv⟩:=HSL.out _ (mem_getDP hi);have HN1:Hid _:=HFP.out.note.isNote i hi;have HSO:Hid _:=HFP.out.note.some' i hi;have HFI:Hid _:=HFP.out.first i hi;have HSC:Hid _:=(fun V hV=>HSP.out.call V hV i hi);have HSN:Hid _:=HSP.out.num i hi;obtain⟨d,hd⟩:∃d,ds.getD i pdD=d:=⟨_,rfl⟩;simp only[hd]at hsv hpl HN1 HSO HFI HSC HSN;rw[hd];obtain⟨ds',df,dc,dh,dp,dm,du,dl⟩:=d;simp only at hsv hpl HN1 HSO HFI HSC;subst hsv;have HPL:Hid _:=hpl;clear b3 hd hpl)
   obtain⟨⟨p0,p1,p2,p3,p4,p5,p6,p7⟩,_⟩:=pdb_cells (heap_alloc_new w3 (pdb ⟨ds',df,dc,dh,dp,dm,.slice sa sn sc,dl⟩))
   simp only at p0 p1 p2 p3 p4 p5 p6 p7
   have HB4:Hid (Below X.heap.size X (w3.alloc (pdb ⟨ds',df,dc,dh,dp,dm,.slice sa sn sc,dl⟩))):=HB3.out.alloc HB3.out.size _
   generalize w3.alloc (pdb ⟨ds',df,dc,dh,dp,dm,.slice sa sn sc,dl⟩)=Y at *
   have htn:toNote H y=(df==7):=by unfold toNote;rw[HAY.out,Bool.true_and,←HPL.out];exact HN1.out.symm
   cases h7:(df==7)
   ·have h7':¬df=7:=by simpa using h7
    have HE:Hid (A=y):=HST.out (by rw[htn];exact h7)
    have HBE:Hid _:=(HALL.out Y HB4.out).2
    clear htn HST HNT
    go_wp2
    try rw[Exit.noGoto_ret]
    go_ret
    exact⟨by rw[HE.out];rfl,HBE.out⟩
   ·obtain rfl:df=7:=by simpa using h7
    obtain⟨_,n2,n3,n4,n5⟩:=HNT.out (by rw[htn];rfl)
    have hxp:=HSO.out (by trivial)
    have hfi:=HFI.out (by trivial)
    have hz:noteW H y=(sl ⟨ds',7,dc,dh,dp,dm,.slice sa sn sc,dl⟩).getD 0 0:=by unfold noteW;rw[←HPL.out];exact hfi.symm
    have hzb:=getD_num HSN.out hxp
    have BY:=(HALL.out Y HB4.out).2
    have NA:=note_any (w:=Y) hxp (fun V' hV'=>HSC.out V' (BY.trans (hV'.mono BY.size)))
    rw[←hz]at NA hzb
    have HN:Hid (wordIn H ps (noteW H y)=true∧I64 (noteW H y)∧fol H (noteW H y)=A∧rk H (noteW H y)<rk H y):=⟨n2,hzb,by rw[←n4];exact HFY.out,n5⟩
    clear htn HST HNT h7 hz hfi hxp hzb n2 n3 n4 n5 BY
    generalize noteW H y=z at *
    go_wp2_with (go_at_call 182;refine NA.mono ?_;clear NA p0 p1 p2 p3 p4 p5 p6 p7;rintro e w5 ⟨rfl,b5⟩;have HB5:Hid _:=HB4.out.trans (b5.mono HB4.out.size);clear b5)
    exact⟨⟨z,rfl,HN.out.1,HN.out.2.1,HN.out.2.2.1,HB5.out⟩,HN.out.2.2.2⟩
theorem FolP.led {H:Hp} {ps:List Int} {ds:List Pd} {sl:Pd→List Int} (h:FolP H ps ds sl) {x:Int} (hx:wordIn H ps x=true):ledB ds x=isA x:=by
 have hw:=h.word x
 rw[hx]at hw
 unfold ledB
 unfold holdW at hw
 cases e:isA x
 ·rfl
 ·rw[e,if_pos rfl]at hw
  rw[hw];rfl
theorem fol_num {H:Hp} (hr:AllI H.row):∀(n:Nat) (x:Int),I64 x→I64 (folL H n x)
 |0,x,h=>h
 |n+1,x,h=>by
  unfold folL
  split
  ·refine fol_num hr n _ ?_
   unfold noteW
   by_cases e:(av x).toNat+1<H.row.length
   ·rw[List.getD_eq_getElem?_getD,List.getElem?_eq_getElem e]
    exact hr _ (List.getElem_mem e)
   ·rw[List.getD_eq_getElem?_getD,List.getElem?_eq_none (by omega)]
    exact⟨by decide,by decide⟩
  ·exact h
set_option maxHeartbeats 16000000 in
theorem standing_any {w:World} {up:Int} {a:Option Addr} {cap:Nat} {H:Hp} {ps:List Int} {ds:List Pd} {sl:Pd→List Int} (hv:RoomsAt w (.slice a ds.length cap) ds sl) (hF:FolP H ps ds sl) (hr:AllI H.row) (x:Int) (hx:wordIn H ps x=true) (hb:I64 x) :
    Calls Tryz.prog 187 #[rmv up (.slice a ds.length cap),.int .i64 x] w fun e w'=>(isA (fol H x)=false→e = .returned (.tuple #[pdv pdD,.bool false]))∧(isA (fol H x)=true→∃i,i<ds.length∧(ds.getD i pdD).pl=av (fol H x)∧e = .returned (.tuple #[pdv (ds.getD i pdD),.bool true]))∧Below w.heap.size w w':=by
 have B0:Below w.heap.size w (w.alloc (rmb up (.slice a ds.length cap))):=(Below.refl _ _).alloc (Nat.le_refl _) _
 have B1:=B0.alloc B0.size (pdb pdD)
 have hyw:=(hF.rt.followed hx).1
 have hyb:I64 (fol H x):=fol_num hr 1000 x hb
 have hyl:=hF.led hyw
 have HFO:Hid (∀V,Below w.heap.size w V→Calls Tryz.prog 203 #[rmv up (.slice a ds.length cap),.int .i64 x] V fun e w'=>e = .returned (.int .i64 (fol H x))∧Below V.heap.size V w'):=fun V hV=>follow_any (hv.below hV) hF x hx hb
 obtain⟨y,hy⟩:∃y,fol H x=y:=⟨_,rfl⟩
 rw[hy]at hyb hyl
 simp only[hy]at HFO
 rw[hy]
 have HLB:Hid (∀V,Below w.heap.size w V→Calls Tryz.prog 181 #[rmv up (.slice a ds.length cap),.int .i64 y] V fun e w'=>(isA y=false→e = .returned (.tuple #[pdv pdD,.bool false]))∧(isA y=true→∃i,i<ds.length∧(ds.getD i pdD).pl=av y∧e = .returned (.tuple #[pdv (ds.getD i pdD),.bool true]))∧Below V.heap.size V w'):=fun V hV=>by
  have:=ledBy_any (up:=up) (pdsAt_below hv.pds hV) hv.slices hv.rise (Nat.le_trans hv.len (by decide)) y hyb.1 hyb.2
  rwa [hyl]at this
 have HSL:Hid _:=hv.slices
 have HALL:Hid (∀V,Below ((w.alloc (rmb up (.slice a ds.length cap))).alloc (pdb pdD)).heap.size ((w.alloc (rmb up (.slice a ds.length cap))).alloc (pdb pdD)) V→(V.cell? ⟨w.heap.size,0,none⟩=some (.int .i64 up)∧V.cell? ⟨w.heap.size,1,none⟩=some (.slice a ds.length cap))∧V.heap[w.heap.size+1]? = some (pdb pdD)∧Below w.heap.size w V∧w.heap.size+2≤V.heap.size):=by
  intro V hV
  have T1:=heap_alloc_new (w.alloc (rmb up (.slice a ds.length cap))) (pdb pdD)
  have T2:Below (w.heap.size+1) (w.alloc (rmb up (.slice a ds.length cap))) V:=((Below.refl _ _).alloc (by simp) _).trans (hV.mono (by simp))
  have q0:V.heap[w.heap.size]? = some (rmb up (.slice a ds.length cap)):=(T2.block _ (by omega)).trans (heap_alloc_new w _)
  have q1:V.heap[w.heap.size+1]? = some (pdb pdD):=(hV.block (w.heap.size+1) (by simp)).trans ((congrArg (fun k=>((w.alloc (rmb up (.slice a ds.length cap))).alloc (pdb pdD)).heap[k]?) (show w.heap.size+1=(w.alloc (rmb up (.slice a ds.length cap))).heap.size by simp)).trans T1)
  have hsz:=hV.size
  exact⟨(rmb_cells q0).1,q1,B1.trans (hV.mono B1.size),by simpa using hsz⟩
 clear hv hF hr hx hb B0 B1 hyw hyb hyl hy
 go_enter Tryz.func187,Tryz.ntmps187
 go_upto_region 1 with fail
 generalize (w.alloc _).alloc _=X at *
 obtain⟨⟨z0,z1⟩,_⟩:=HALL.out X (Below.refl _ _)
 have HG:Hid (∀(V w':World),Below V.heap.size V w'→Below X.heap.size X V→(w'.cell? ⟨w.heap.size,0,none⟩=some (.int .i64 up)∧w'.cell? ⟨w.heap.size,1,none⟩=some (.slice a ds.length cap))∧w'.heap[w.heap.size+1]? = some (pdb pdD)∧Below w.heap.size w w'∧w.heap.size+2≤w'.heap.size∧Below X.heap.size X w'):=by
  intro V w' h1 h2
  have hX:Below X.heap.size X w':=h2.trans (h1.mono h2.size)
  obtain⟨hz,q,hw,s⟩:=HALL.out w' hX
  exact⟨hz,q,hw,s,hX⟩
 have HGB:Hid (∀V,Below X.heap.size X V→Below w.heap.size w V):=fun V hV=>(HG.out X V hV (Below.refl _ _)).2.2.1
 clear HALL
 cases dA:isA y
 ·have HDA:Hid _:=dA
  simp only[dA]at HLB
  clear dA
  have HL0:Hid (∀V,Below w.heap.size w V→Calls Tryz.prog 181 #[rmv up (.slice a ds.length cap),.int .i64 y] V fun e w'=>e = .returned (.tuple #[pdv pdD,.bool false])∧Below V.heap.size V w'):=fun V hV=>(HLB.out V hV).mono (fun e w' hh=>⟨hh.1 (by trivial),hh.2.2⟩)
  clear HLB
  go_region_law (first
   |(go_simp;go_at_call 203;refine Calls.mono (HFO.out _ (HGB.out _ ⟨rfl,rfl,rfl,Nat.le_refl _,fun _ _=>rfl⟩)) ?_;rintro e w5 ⟨rfl,b5⟩;obtain⟨⟨t0,t1⟩,_,y5,_,x5⟩:=HG.out _ _ b5 ⟨rfl,rfl,rfl,Nat.le_refl _,fun _ _=>rfl⟩;have HW5:Hid _:=y5;have HX5:Hid _:=x5;clear HFO b5 y5 x5 HGB)
   |(go_simp;go_at_call 181;refine Calls.mono (HL0.out _ ⟨HW5.out.os,HW5.out.tape,HW5.out.output,HW5.out.size,HW5.out.block⟩) ?_;rintro e w6 ⟨rfl,b6⟩;obtain⟨_,q6,bw6,s6,_⟩:=HG.out w5 w6 ⟨b6.os,b6.tape,b6.output,b6.size,b6.block⟩ HX5.out;obtain⟨⟨g0,g1,g2,g3,g4,g5,g6,g7⟩,f0,f1,f2,f3,f4,f5,f6,f7⟩:=pdb_cells q6;have HQ6:Hid _:=q6;have HBW:Hid _:=bw6;clear HL0 b6 q6 bw6 HG))
  all_goals (go_wp2_with fail)
  all_goals exact bodyPost_ret (res_pd rfl rfl rfl (pdb_set HQ6.out pdD)) rfl ⟨fun _=>rfl,fun e=>absurd (HDA.out.symm.trans e) (by decide),pdb_below HBW.out (by omega) pdD⟩
 ·have HDA:Hid _:=dA
  simp only[dA]at HLB
  clear dA
  have HL0:Hid (∀V,Below w.heap.size w V→Calls Tryz.prog 181 #[rmv up (.slice a ds.length cap),.int .i64 y] V fun e w'=>(∃i,i<ds.length∧(ds.getD i pdD).pl=av y∧e = .returned (.tuple #[pdv (ds.getD i pdD),.bool true]))∧Below V.heap.size V w'):=fun V hV=>(HLB.out V hV).mono (fun e w' hh=>⟨hh.2.1 (by trivial),hh.2.2⟩)
  clear HLB
  go_region_law (first
   |(go_simp;go_at_call 203;refine Calls.mono (HFO.out _ (HGB.out _ ⟨rfl,rfl,rfl,Nat.le_refl _,fun _ _=>rfl⟩)) ?_;rintro e w5 ⟨rfl,b5⟩;obtain⟨⟨t0,t1⟩,_,y5,_,x5⟩:=HG.out _ _ b5 ⟨rfl,rfl,rfl,Nat.le_refl _,fun _ _=>rfl⟩;have HW5:Hid _:=y5;have HX5:Hid _:=x5;clear HFO b5 y5 x5 HGB)
   |(go_simp;go_at_call 181;refine Calls.mono (HL0.out _ ⟨HW5.out.os,HW5.out.tape,HW5.out.output,HW5.out.size,HW5.out.block⟩) ?_;rintro e w6 ⟨⟨i,hi,hpl,rfl⟩,b6⟩;obtain⟨_,q6,bw6,s6,_⟩:=HG.out w5 w6 ⟨b6.os,b6.tape,b6.output,b6.size,b6.block⟩ HX5.out;obtain⟨⟨g0,g1,g2,g3,g4,g5,g6,g7⟩,f0,f1,f2,f3,f4,f5,f6,f7⟩:=pdb_cells q6;have HQ6:Hid _:=q6;have HBW:Hid _:=bw6;obtain⟨sa,sn,sc,hsv⟩:=HSL.out _ (mem_getDP hi);obtain⟨d,hd⟩:∃d,ds.getD i pdD=d:=⟨_,rfl⟩;rw[hd]at hsv hpl ⊢; have HD:Hid _:=hd;have HPL:Hid _:=hpl;obtain⟨ds',df,dc,dh,dp,dm,du,dl⟩:=d;simp only at hsv;subst hsv;clear HL0 b6 q6 bw6 HG hd hpl))
  all_goals (go_wp2_with fail)
  all_goals exact bodyPost_ret (res_pd rfl rfl rfl (pdb_set HQ6.out ⟨ds',df,dc,dh,dp,dm,.slice sa sn sc,dl⟩)) rfl ⟨fun e=>absurd (HDA.out.symm.trans e) (by decide),fun _=>⟨i,hi,(by first|(rw[HD.out];exact HPL.out)|(have q:=HD.out;rw[List.getD_eq_getElem?_getD]at q;rw[q];exact HPL.out)),(by first|rw[HD.out]|(have q:=HD.out;rw[List.getD_eq_getElem?_getD]at q;rw[q]))⟩,pdb_below HBW.out (by omega) ⟨ds',df,dc,dh,dp,dm,.slice sa sn sc,dl⟩⟩
end Go.Proofs.YtkiognecebgaiaaGreatDoor.hp
namespace Go.Proofs.YtkiognecebgaiaaGreatDoor.hp
open Go.RowKit rows heads words walks Go.Maps
set_option maxRecDepth 100000
set_option linter.unusedVariables false
set_option linter.unusedSimpArgs false
abbrev shb (up:Int) (v:Value) (mb:Nat) (vm:Value):Obj:=.cells #[.int .i64 up,v,.map (some mb),vm] 191
theorem shb_cells {W:World} {b:Nat} {up:Int} {v vm:Value} {mb:Nat} (h:W.heap[b]? = some (shb up v mb vm)):(W.cell? ⟨b,0,none⟩=some (.int .i64 up)∧W.cell? ⟨b,1,none⟩=some v∧W.cell? ⟨b,2,none⟩=some (.map (some mb))∧W.cell? ⟨b,3,none⟩=some vm)∧∀k,W.frozen? ⟨b,k,none⟩=false:=by
 refine⟨⟨?_,?_,?_,?_⟩,fun k => ?_⟩<;>simp[World.cell?, World.frozen?, h]
theorem shb_set {W:World} {b:Nat} {up:Int} {v vm:Value} {mb:Nat} (h:W.heap[b]? = some (shb up v mb vm)) (u:Value):(W.setCell ⟨b,3,none⟩ u).heap[b]? = some (shb up v mb u):=(cells_setCell h 3 u).trans (by simp)
def idM (M:List Int) (p:Int):Int:=if p ∈ M then (idxM M p:Int)+1 else 0
theorem idxM_new {M:List Int} {p:Int} (h:p ∉ M):idxM (M++[p]) p=M.length:=by
 unfold idxM
 rw[List.findIdx_append,if_neg (by
  rw[List.findIdx_lt_length]
  rintro⟨x,hx,e⟩
  have:x=p:=by simpa using e
  exact h (this▸hx))]
 simp[List.findIdx_cons]
theorem idM_new {M:List Int} {p:Int} (h:p ∉ M):idM (M++[p]) p=(M.length:Int)+1:=by
 unfold idM
 rw[if_pos (by simp),idxM_new h]
theorem idM_old {M:List Int} {p q:Int} (h:q≠p):idM (M++[p]) q=idM M q:=by
 unfold idM
 by_cases hq:q ∈ M
 ·rw[if_pos (List.mem_append_left _ hq),if_pos hq,idxM_pre hq]
 ·rw[if_neg (by simp[hq,h]),if_neg hq]
structure IdM (D:DataW Unit) (M:List Int):Prop where
 tidy:Tidy D
 val:∀p:Int,D.atKey (kI p) (nD 0)=nD (idM M p)
theorem IdM.start:IdM (.map []) []:=⟨Maps.tidy_empty,fun a=>rfl⟩
theorem IdM.put {D:DataW Unit} {M:List Int} (h:IdM D M) {p:Int} (hn:p ∉ M):IdM (D.put (kI p) (nD ((M.length:Int)+1))) (M++[p]):=by
 refine⟨h.tidy.put (kI_key _) _,fun q => ?_⟩
 by_cases e:q=p
 ·subst e
  rw[idM_new hn]
  exact Maps.atKey_put_same h.tidy.isMap (kI_key _) _ _
 ·rw[idM_old e,Maps.atKey_put_other (kI_ne e)]
  exact h.val q
def shF (C mb:Nat) (vm:Value) (j:Nat):Prop:=j=C∨j=mb∨j ∈ blk vm
structure Sh (W0:World) (base C mb:Nat) (up:Int) (v:Value) (W:World) (es:List Pd) (vm:Value):Prop where
 blk':W.heap[C]? = some (shb up v mb vm)
 own:OwnP W base vm es
 sl:SlicesP es
 map:∃D,W.ownsMap Tryz.prog 2 (plainElem Tryz.prog 2) mb es.length D∧IdM D (es.map Pd.pl)
 low:Below W0.heap.size W0 W
 bc:W0.heap.size≤C
 bm:W0.heap.size≤mb
 bz:base≤W.heap.size
 nc:C<base
 nm:mb<base
 ne:C≠mb
 num:∀d ∈ es,I64 d.pl
theorem Sh.below {W0:World} {base C mb:Nat} {up:Int} {v:Value} {W V:World} {es:List Pd} {vm:Value} (h:Sh W0 base C mb up v W es vm) (hb:Below W.heap.size W V):Sh W0 base C mb up v V es vm:=by
 obtain⟨D,hm,hD⟩:=h.map
 exact⟨(hb.block _ (lt_of_block h.blk')).trans h.blk',ownP_below h.own hb,h.sl,⟨D,map_below hm hb,hD⟩,h.low.trans (hb.mono h.low.size),h.bc,h.bm,Nat.le_trans h.bz hb.size,h.nc,h.nm,h.ne,h.num⟩
theorem Sh.look {W0:World} {base C mb:Nat} {up:Int} {v:Value} {W:World} {es:List Pd} {vm:Value} (h:Sh W0 base C mb up v W es vm) {p:Int} (hp:I64 p):(Instr.lookup 74 (.map (some mb)) (.int .i64 p) false).run Tryz.prog W = .ok (.int .i64 (idM (es.map Pd.pl) p)) W:=by
 obtain⟨D,hm,hD⟩:=h.map
 have HKY:keyOf Tryz.prog 2 (.int .i64 p)=some (kI p):=keyOf_int_mk Tryz.underlying2 (WalkArith.wf_i64 hp)
 obtain⟨c,hrun,hat,_⟩:=World.ownsMap.lookup_int hm lawK Tryz.underlying74 Tryz.underlying2 (by kernel_rfl) HKY
 have e:c=idM (es.map Pd.pl) p:=nD_inj (hat.symm.trans (hD.val p))
 rw[e]at hrun
 exact hrun
structure SR (W0:World) (base C mb:Nat) (up:Int) (v:Value) (W:World) (vm:Value) (W':World) (es':List Pd) (vm':Value):Prop where
 sh:Sh W0 base C mb up v W' es' vm'
 ch:ChP (shF C mb vm) W W'
 nw:∀j ∈ blk vm',j ∈ blk vm∨W.heap.size≤j
theorem SR.refl {W0:World} {base C mb:Nat} {up:Int} {v:Value} {W:World} {es:List Pd} {vm:Value} (h:Sh W0 base C mb up v W es vm):SR W0 base C mb up v W vm W es vm:=⟨h,ChP.refl _ _,fun j hj => .inl hj⟩
theorem SR.ahead {W0:World} {base C mb:Nat} {up:Int} {v:Value} {W V W':World} {es':List Pd} {vm vm':Value} (h:SR W0 base C mb up v V vm W' es' vm') (hb:Below W.heap.size W V):SR W0 base C mb up v W vm W' es' vm':=
 ⟨h.sh,(chP_below hb).trans h.ch (fun j hj => .inl hj),fun j hj=>(h.nw j hj).imp id (fun e=>Nat.le_trans hb.size e)⟩
theorem SR.below {W0:World} {base C mb:Nat} {up:Int} {v:Value} {W W' V:World} {es':List Pd} {vm vm':Value} (h:SR W0 base C mb up v W vm W' es' vm') (hb:Below W'.heap.size W' V):SR W0 base C mb up v W vm V es' vm':=
 ⟨h.sh.below hb,h.ch.trans (chP_below hb) (fun j hj => .inl hj),h.nw⟩
theorem SR.trans {W0:World} {base C mb:Nat} {up:Int} {v:Value} {W W1 W2:World} {es1 es2:List Pd} {vm vm1 vm2:Value} (h:SR W0 base C mb up v W vm W1 es1 vm1) (k:SR W0 base C mb up v W1 vm1 W2 es2 vm2):SR W0 base C mb up v W vm W2 es2 vm2:=
 ⟨k.sh,h.ch.trans k.ch (fun j hj=>by
  rcases hj with e|e|e
  ·exact .inl (.inl e)
  ·exact .inl (.inr (.inl e))
  ·exact (h.nw j e).imp (fun e => .inr (.inr e)) id),fun j hj=>(k.nw j hj).elim (h.nw j) (fun e => .inr (Nat.le_trans h.ch.size e))⟩
theorem pds_one {W:World} {b:Nat} {d:Pd} (h:W.heap[b]? = some (pdb d)):PdsAt W (.slice (some ⟨b,0,none⟩) 1 1) [d]:=by
 obtain⟨⟨k0,k1,k2,k3,k4,k5,k6,k7⟩,_⟩:=pdb_cells h
 refine⟨_,1,rfl,Nat.le_refl _,by decide,fun h=>(by cases h),fun _=>⟨b,0,rfl,lt_of_block h,fun i hi => ?_⟩⟩
 have e:i=0:=by simpa using hi
 subst e
 exact⟨k0,k1,k2,k3,k4,k5,k6,k7⟩
theorem run_app1P {w:World} {base:Nat} {v:Value} {es:List Pd} {vb:Nat} {e:Pd} (hown:OwnP w base v es) (hvb:w.heap[vb]? = some (pdb e)) (hsl:SlicesP [e]) (hl:es.length≤1000000) (hbase:base≤w.heap.size) (ty:TypeId) :
    ∃va vn vc w',(Builtin.append_ #[151,151] ty #[v,.slice (some ⟨vb,0,none⟩) 1 1]).run Tryz.prog w = .ok (.slice va vn vc) w'∧OwnP w' base (.slice va vn vc) (es++[e])∧Ch (blk v) w w'∧∀k ∈ blk (.slice va vn vc),k ∈ blk v∨w.heap.size≤k:=by
 obtain⟨i0,hi,hz0,hz1,hz2⟩:=info_parts infoP
 obtain⟨v',w',hr,h2,h3,_,h5⟩:=run_append_own_at (P:=Tryz.prog) w base 151 ty 197 i0 (pdv pdD) 8 72 Tryz.underlying151 hi hz0 hz1 hz2 rfl (by decide) v es.length (cellsP es) hown ⟨vb,0,none⟩ 1 1 (cellsP [e]) rfl (pds_news (pds_one hvb)) (cellsP_one hsl) (by unfold maxLen;omega) (by omega) hbase
 have O':OwnP w' base v' (es++[e]):=by
  show World.ownsRow _ _ _ _ _ _ _
  rw[List.length_append,cellsP_append]
  exact h2
 obtain⟨va,vc,rfl⟩:=pds_slice (ownP_at O')
 refine⟨va,_,vc,w',hr,O',ch_grown h3,fun k hk => ?_⟩
 unfold blk at hk ⊢
 rcases h5 with e|e
 ·rw[e]at hk;exact .inl hk
 ·rw[e]at hk;simp at hk;exact .inr (by omega)
theorem step_app1P {ops:Array Oper} {o:Oper} {a:Act} {w:World} {K:Act→World→Prop} {Q:Exit→Act→World→Prop} {E:Prop} (hgd:o.guard=none) (s x:Operand)
    (ho:o.op = .call { callee:=.builtin .append,args:=#[s,x],argTypes:=#[151,151] })
    (base:Nat) (v:Value) (es:List Pd) (hs:a.eval s=v) (hown:OwnP w base v es) (vb:Nat) (e:Pd) (hx:a.eval x = .slice (some ⟨vb,0,none⟩) 1 1) (hvb:w.heap[vb]? = some (pdb e)) (hsl:SlicesP [e]) (hl:es.length≤1000000) (hbase:base≤w.heap.size)
    (h:∀va vn vc w',OwnP w' base (.slice va vn vc) (es++[e])→Ch (blk v) w w'→(∀k ∈ blk (.slice va vn vc),k ∈ blk v∨w.heap.size≤k)→K (a.put o.dst (.slice va vn vc)) w') :
    if Region.wanted o (yielded ops a.tmps)=true then Oper.wp Tryz.prog o a w K Q else E:=by
 have hw:Region.wanted o (yielded ops a.tmps)=true:=by simp[Region.wanted,hgd]
 rw[if_pos hw]
 obtain⟨va,vn,vc,w',hr,h1,h2,h3⟩:=run_app1P hown hvb hsl hl hbase o.type
 unfold Oper.wp
 simp[execOp,ho,resolve,invoke,builtin,hs,hx,hr,Result.andThen]
 exact h va vn vc w' h1 h2 h3
theorem Sh.more {W0:World} {base C mb:Nat} {up:Int} {v:Value} {W X w6:World} {es:List Pd} {vm:Value} (h:Sh W0 base C mb up v W es vm) {d:Pd} (hd:I64 d.pl) (hsl:SlicesP [d]) (hn:d.pl ∉ es.map Pd.pl) (hl:es.length≤1000) (hX:Below W.heap.size W X) {va:Option Addr} {vn vc:Nat}
    (h1:OwnP w6 base (.slice va vn vc) (es++[d])) (h2:Ch (blk vm) X w6) (h3:∀k ∈ blk (.slice va vn vc),k ∈ blk vm∨X.heap.size≤k) :
    w6.heap[C]? = some (shb up v mb vm)∧(∀j,W.heap.size≤j→j<X.heap.size→w6.heap[j]? = X.heap[j]?)∧∃W8,(Instr.mapUpdate 74 (.map (some mb)) (.int .i64 d.pl) (.int .i64 ((es.length:Int)+1))).run Tryz.prog (w6.setCell ⟨C,3,none⟩ (.slice va vn vc)).drew = .ok () W8∧SR W0 base C mb up v W vm W8 (es++[d]) (.slice va vn vc)∧(∀j,W.heap.size≤j→j<X.heap.size→W8.heap[j]? = X.heap[j]?):=by
 have hlt:=lt_of_block h.blk'
 have ob:=blk_lt h.own
 have hnc:=h.nc
 have hnm:=h.nm
 have hbz:=h.bz
 have hXs:=hX.size
 obtain⟨D,hm,hD⟩:=h.map
 have nC:C ∉ blk vm:=fun hk=>by have:=(ob C hk).1;omega
 have nM:mb ∉ blk vm:=fun hk=>by have:=(ob mb hk).1;omega
 have hM:=hm.lt
 have b6:w6.heap[C]? = some (shb up v mb vm):=(h2.block C (by omega) nC).trans ((hX.block C hlt).trans h.blk')
 have k6:∀j,W.heap.size≤j→j<X.heap.size→w6.heap[j]? = X.heap[j]? := fun j hj hj2=>h2.block j hj2 (fun hk=>by have:=(ob j hk).2;omega)
 have m6:w6.ownsMap Tryz.prog 2 (plainElem Tryz.prog 2) mb es.length D:=World.ownsMap.kept (row:=vm.ownBlock) (map_below hm hX) ⟨h2.os,h2.tape,h2.output,h2.size,fun k hk hn=>h2.block k hk (fun hc=>hn (by unfold blk at hc;exact (Option.mem_toList.1 hc).symm))⟩ (fun e=>nM (by unfold blk;rw[←e];simp))
 have m7:(w6.setCell ⟨C,3,none⟩ (.slice va vn vc)).drew.ownsMap Tryz.prog 2 (plainElem Tryz.prog 2) mb es.length D:=World.ownsMap.drew (World.ownsMap.setCell m6 (a:=⟨C,3,none⟩) (fun e=>h.ne e.symm) _)
 have HKY:keyOf Tryz.prog 2 (.int .i64 d.pl)=some (kI d.pl):=keyOf_int_mk Tryz.underlying2 (WalkArith.wf_i64 hd)
 obtain⟨W8,hrun,m8,g8⟩:=World.ownsMap.update m7 lawK Tryz.underlying74 (by unfold maxLen;omega) HKY (plainElem_int Tryz.underlying2 (WalkArith.wf_i64 (show I64 ((es.length:Int)+1) from ⟨by omega,by omega⟩)))
 have e7:(w6.setCell ⟨C,3,none⟩ (.slice va vn vc)).drew.heap.size=w6.heap.size:=by simp[World.drew,World.setCell]
 have hb7:∀j,j<w6.heap.size→j≠mb→W8.heap[j]? = (w6.setCell ⟨C,3,none⟩ (.slice va vn vc)).heap[j]? := fun j hj hne=>g8.block j (by rw[e7];exact hj) (fun e=>hne (by injection e))
 have hs6:=h2.size
 have o6:=blk_lt h1
 have c7:∀j,j<w6.heap.size→j≠mb→j≠C→W8.heap[j]? = w6.heap[j]? := fun j hj h1 h2=>(hb7 j hj h1).trans (Below.heap_setCell _ _ _ j h2)
 have hs8:=g8.size
 rw[e7]at hs8
 have ch8:ChP (shF C mb vm) W W8:=⟨g8.os.trans (h2.os.trans hX.os),g8.tape.trans (h2.tape.trans hX.tape),g8.output.trans (h2.output.trans hX.output),by omega,fun j hj hn=>(c7 j (by omega) (fun e=>hn (.inr (.inl e))) (fun e=>hn (.inl e))).trans ((h2.block j (by omega) (fun e=>hn (.inr (.inr e)))).trans (hX.block j hj))⟩
 refine⟨b6,k6,W8,hrun,⟨⟨(hb7 C (by omega) h.ne).trans (shb_set b6 _),?_,?_,⟨D.put (kI d.pl) (nD ((es.length:Int)+1)),?_,?_⟩,?_,h.bc,h.bm,by omega,h.nc,h.nm,h.ne,?_⟩,ch8,fun j hj=>(h3 j hj).imp id (fun e=>by omega)⟩,fun j hj hj2=>(c7 j (by omega) (fun e=>by omega) (fun e=>by omega)).trans (k6 j hj hj2)⟩
 ·exact row_ch (S:=[C,mb]) h1 ⟨g8.os,g8.tape,g8.output,by omega,fun j hj hn=>c7 j hj (fun e=>hn (by simp[e])) (fun e=>hn (by simp[e]))⟩ (fun j hj hc=>by
    have:=(o6 j hj).1
    have e:j=C∨j=mb:=by simpa using hc
    omega)
 ·intro x hx
  rcases List.mem_append.1 hx with hx|hx
  ·exact h.sl x hx
  ·exact hsl x hx
 ·rw[List.length_append]
  exact m8
 ·rw[List.map_append,show ((es.length:Int)+1)=((es.map Pd.pl).length:Int)+1 by rw[List.length_map]]
  exact hD.put hn
 ·exact h.low.trans (below_chP ch8 h.low.size (fun j hj=>by
    rcases hj with e|e|e
    ·rw[e];exact h.bc
    ·rw[e];exact h.bm
    ·have:=(ob j e).1;have:=h.bc;omega))
 ·intro x hx
  rcases List.mem_append.1 hx with hx|hx
  ·exact h.num x hx
  ·have e:x=d:=by simpa using hx
   rw[e];exact hd
end Go.Proofs.YtkiognecebgaiaaGreatDoor.hp
