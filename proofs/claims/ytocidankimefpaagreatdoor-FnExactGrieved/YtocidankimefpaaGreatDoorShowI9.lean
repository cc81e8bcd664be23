/- Chapter 10 as the program has it: all th -/
import Derived.Test.YtocidankimefpaaGreatDoorM26
set_option linter.unusedSimpArgs false
set_option linter.unusedVariables false
set_option maxRecDepth 100000
namespace Go.Proofs.YtocidankimefpaaGreatDoor.hp
open Go.RowKit rows heads words walks Go.Maps region
def dS9 (k:Nat):Nat:=37+k
theorem Ge:∀k,k<14→∀j,j<14→dS9 j=dS9 k→j=k:=fun k _ j _ e=>by unfold dS9 at e;omega
def DS9 (s:Nat):Bool:=decide (37≤s)&&decide (s≤50)
def FS9 (X:World) (oa:Option Addr) (on oc mg mo mc n i:Nat) (d:Pd) (k:Nat) (t:Value):Prop:=
 match k with
 |0=>t = .pointer (some ⟨X.heap.size+2,0,none⟩)
 |1=>t = .slice oa on oc
 |2=>t = .pointer (some ⟨X.heap.size+1,0,none⟩)
 |3=>t = .pointer (some ⟨X.heap.size+1,0,none⟩)
 |4=>t = .pointer (some ⟨X.heap.size+1,0,none⟩)
 |5=>t = .pointer (some ⟨X.heap.size+1,3,none⟩)
 |6=>t = .slice (some ⟨mg,mo,none⟩) n mc
 |7=>t = .int .i64 (i:Int)
 |8=>t = .pointer (some ⟨mg,mo+i*8,none⟩)
 |9=>t=pdv d
 |10=>True
 |11=>True
 |12=>True
 |13=>t = .pointer (some ⟨X.heap.size+2,0,none⟩)
 |_=>False
theorem C6 (X:World) (up:Int) (v:Value) (ds:List Pd) (s:Int):ShG X (X.heap.size+1) X.heap.size up v ds (X.heap.size+2) (((X.alloc (.map #[] 0)).alloc (shb up v X.heap.size (.slice none 0 0))).alloc (gr.gb (.slice none 0 0) (.slice none 0 0) (.slice none 0 0) 0 s)) [] (.slice none 0 0) ⟨[],[],[],0,s⟩:=by
 have B1:Below X.heap.size X (X.alloc (.map #[] 0)):=(Below.refl _ _).alloc (Nat.le_refl _) _;have B2:Below X.heap.size X ((X.alloc (.map #[] 0)).alloc (shb up v X.heap.size (.slice none 0 0))):=B1.alloc B1.size _;have B3:=B2.alloc B2.size (gr.gb (.slice none 0 0) (.slice none 0 0) (.slice none 0 0) 0 s);have b2:Below ((X.alloc (.map #[] 0)).alloc (shb up v X.heap.size (.slice none 0 0))).heap.size ((X.alloc (.map #[] 0)).alloc (shb up v X.heap.size (.slice none 0 0))) (((X.alloc (.map #[] 0)).alloc (shb up v X.heap.size (.slice none 0 0))).alloc (gr.gb (.slice none 0 0) (.slice none 0 0) (.slice none 0 0) 0 s)):=(Below.refl _ _).alloc (Nat.le_refl _) _;have q:=heap_alloc2_new X (.map #[] 0) (shb up v X.heap.size (.slice none 0 0));have q2:=heap_alloc_new ((X.alloc (.map #[] 0)).alloc (shb up v X.heap.size (.slice none 0 0))) (gr.gb (.slice none 0 0) (.slice none 0 0) (.slice none 0 0) 0 s);have e2:((X.alloc (.map #[] 0)).alloc (shb up v X.heap.size (.slice none 0 0))).heap.size=X.heap.size+2:=by simp
 rw[e2]at q2;have hn:∀k,k ∉ blk (.slice none 0 0):=fun k hk=>by simp[blk,Value.ownBlock]at hk
 refine⟨⟨(b2.block _ (by rw[e2];omega)).trans q,⟨rfl,.inl ⟨rfl,rfl⟩⟩,fun d hd=>(by cases hd),⟨.map [],(((World.ownsMap_made X Tryz.prog 2 (plainElem Tryz.prog 2)).alloc _).alloc _),IdM.start⟩,B3,by omega,Nat.le_refl _,by simp,by omega,by omega,by omega,fun d hd=>(by cases hd)⟩,fun d hd=>(by cases hd),by omega,by omega,by omega,.slice none 0 0,.slice none 0 0,.slice none 0 0,[],q2,⟨rfl,⟨World.ownsRow_nil _ _ _ _,fun m hm=>(by cases hm),(by simp[gr.blk,gr.gD,Value.ownBlock])⟩,gr.kK _ _,gr.kK _ _,by simp[gr.cj,gr.blk,gr.gD,Value.ownBlock]⟩,by simp[gr.cj,gr.blk,gr.gD,Value.ownBlock],fun k hk=>hn k⟩
theorem Hx {fn:Func} {tmps:Array Value} {X:World} {j i b:Nat} {o r m:Value} {va:Option Addr} {vn vc:Nat} {x y:Int} (hf:fn.results=#[.cell j 50,.tmp i]) (h2:tmps[j]? = some (.pointer (some ⟨b,0,none⟩))) (hi:tmps[i]? = some (.slice va vn vc)) (hX:gr.fh X b 50 o r m (.int .i64 x) (.int .i64 y)) :
    (results fn tmps).run Tryz.prog X = .ok (.tuple #[gr.gv o r m x y,.slice va vn vc]) X:=by
 obtain⟨k0,k1,k2,k3,k4,_⟩:=gr.ak hX;clear hX;simp[results,hf,h2,hi,go_sem,k0,k1,k2,k3,k4]
def ShA (w:World) (H:Hp) (ds:List Pd) (e:Ending) (w':World):Prop:=∃o r m ms va vn vc es,e = .returned (.tuple #[gr.gv o r m (grS H (bN H)).next (grS H (bN H)).seed,.slice va vn vc])∧gr.ja w' w.heap.size o r m ms (grS H (bN H))∧fg w' w.heap.size (.slice va vn vc) es∧es.map Pd.pl=bN H∧(∀d ∈ es,d ∈ ds)∧(∀k ∈ gr.cj o r m ms,k ∉ blk (.slice va vn vc))∧Below w.heap.size w w'
theorem C8 {es:List Pd} {i:Nat} (hi:i<es.length):(es.map Pd.pl).getD i 0=(es.getD i pdD).pl:=by
 rw[List.getD_eq_getElem?_getD,List.getElem?_map,List.getElem?_eq_getElem hi,List.getD_eq_getElem?_getD,List.getElem?_eq_getElem hi];rfl
theorem Hy {a b:Nat} {w w1 w2:World} (h:Ch [a] w w1) (h2:Ch [b] w1 w2):Ch [a,b] w w2:=by
 refine⟨h2.os.trans h.os,h2.tape.trans h.tape,h2.output.trans h.output,Nat.le_trans h.size h2.size,fun k hk hn => ?_⟩
 have n1:k≠a:=fun e=>hn (by simp[e])
 have n2:k≠b:=fun e=>hn (by simp[e])
 exact (h2.block k (Nat.lt_of_lt_of_le hk h.size) (by simpa using n2)).trans (h.block k hk (by simpa using n1))
theorem E9 (Y:World) (q:Nat) (u0 u1 u2 u3 u4:Value):Ch [q] Y (((((Y.setCell ⟨q,0,none⟩ u0).setCell ⟨q,1,none⟩ u1).setCell ⟨q,2,none⟩ u2).setCell ⟨q,3,none⟩ u3).setCell ⟨q,4,none⟩ u4).drew:=by
 exact (GO (gr.nj (X:=Y) (b:=q) u0 u1 u2 u3 u4)).trans (bu ((Below.refl _ _).drew))
theorem Gf {w X:World} {C mb:Nat} {up:Int} {v:Value} {H:Hp} {ds es:List Pd} {P:Nat} {wr:World} {vm o r m:Value} {ms:List gr.MO} (hX:Below w.heap.size w X) (hw:w.heap.size+1<X.heap.size) (sh:Sh X (P+1) C mb up v wr es vm) (hin:∀d ∈ es,d ∈ ds) (lo:X.heap.size≤P) (gx:GrX wr P ⟨(List.range es.length).map (obS H (bN H)),H.roots.map (cW H (bN H)),H.a7.map (cW H (bN H)),0,H.seed⟩ vm o r m ms) (ho:es.map Pd.pl=bN H) {va:Option Addr} {vn vc:Nat} (hvm:vm = .slice va vn vc)
    {V:World} (hV:Ch [P,w.heap.size+1] wr V):ShA w H ds (.returned (.tuple #[gr.gv o r m ((es.length:Int)+1) H.seed,.slice va vn vc])) V:=by
 subst hvm;obtain⟨T,O,N,A⟩:=gx;have hl:es.length=(bN H).length:=by rw[←ho,List.length_map]
 have glt:=gr.dz O;have L3:=sh.lt.2.2;have hxs:=hX.size
 have eG:grS H (bN H)=⟨(List.range es.length).map (obS H (bN H)),H.roots.map (cW H (bN H)),H.a7.map (cW H (bN H)),(es.length:Int)+1,H.seed⟩:=by
  unfold grS;rw[hl]
 have O2:gr.ja V P o r m ms (grS H (bN H)):=by
  rw[eG]
  exact gr.fN (G:=⟨(List.range es.length).map (obS H (bN H)),H.roots.map (cW H (bN H)),H.a7.map (cW H (bN H)),(es.length:Int)+1,H.seed⟩) O (GY hV) (fun k hk hc=>by
   have e:k=P∨k=w.heap.size+1:=by simpa using hc
   rcases e with e|e
   ·exact N (e▸hk)
   ·have:=(glt k hk).1;omega)
 refine⟨o,r,m,ms,va,vn,vc,es,by rw[eG],gr.uJ O2 (by omega),qR (aE sh.own hV (fun k hk hc => ?_)) (by omega),ho,hin,A,hX.trans ((sh.low.mono hX.size).trans (bn hV (Nat.le_trans hX.size sh.low.size) (fun k hk => ?_)))⟩
 ·have e:k=P∨k=w.heap.size+1:=by simpa using hc
  have:=(L3 k hk).1
  omega
 ·have e:k=P∨k=w.heap.size+1:=by simpa using hk
  omega
set_option maxHeartbeats 64000000 in
theorem xA {w:World} {b off c1 c2 c3 c4 c5:Nat} {a2 a3 a4 a5:Option Addr} {H:Hp} {ps:List Int} {ds:List Pd} {sl:Pd→List Int} (h:eW w (.slice (some ⟨b,off,none⟩) H.row.length c1) (.slice a2 H.roots.length c2) (.slice a3 H.a7.length c3) (.slice a4 H.seen.length c4) H) (hv:dN w (.slice a5 ds.length c5) ds sl) (hF:ET H ps ds sl) (hI:HpI H) (hl:H.row.length≤1000) (hl2:H.roots.length≤1000) (hl3:H.a7.length≤1000) (hD:∀d ∈ ds,C0 (some ⟨b,off,none⟩) H.row d) (up:Int) :
    Calls Tryz.prog 22 #[hov H (.slice (some ⟨b,off,none⟩) H.row.length c1) (.slice a2 H.roots.length c2) (.slice a3 H.a7.length c3) (.slice a4 H.seen.length c4) up (.slice a5 ds.length c5)] w fun e w'=>ShA w H ds e w':=by
 have hmm:= @run_makeMap Tryz.prog;have B0:Below w.heap.size w (w.alloc (hob H (.slice (some ⟨b,off,none⟩) H.row.length c1) (.slice a2 H.roots.length c2) (.slice a3 H.a7.length c3) (.slice a4 H.seen.length c4) up (.slice a5 ds.length c5))):=(Below.refl _ _).alloc (Nat.le_refl _) _;have B1:=B0.alloc B0.size (gr.gb (.slice none 0 0) (.slice none 0 0) (.slice none 0 0) 0 0)
 have HALL:Hid (∃X,X=(w.alloc (hob H (.slice (some ⟨b,off,none⟩) H.row.length c1) (.slice a2 H.roots.length c2) (.slice a3 H.a7.length c3) (.slice a4 H.seen.length c4) up (.slice a5 ds.length c5))).alloc (gr.gb (.slice none 0 0) (.slice none 0 0) (.slice none 0 0) 0 0)∧X.heap[w.heap.size]? = some (hob H (.slice (some ⟨b,off,none⟩) H.row.length c1) (.slice a2 H.roots.length c2) (.slice a3 H.a7.length c3) (.slice a4 H.seen.length c4) up (.slice a5 ds.length c5))∧X.heap[w.heap.size+1]? = some (gr.gb (.slice none 0 0) (.slice none 0 0) (.slice none 0 0) 0 0)∧Below w.heap.size w X):=
  ⟨_,rfl,heap_alloc2_old _ _ _,heap_alloc2_new _ _ _,B1⟩
 have R:=hF.rt;obtain⟨RR,hRR⟩:∃RR,bN H=RR:=⟨_,rfl⟩
 have hroo:∀x ∈ H.roots,∀a,tgt H x=some a→pg H ps a:=fun x hx a ha=>R.wg (R.km (List.mem_append_left _ hx)) ha
 have hmou:∀x ∈ H.a7,∀a,tgt H x=some a→pg H ps a:=fun x hx a ha=>R.wg (R.km (List.mem_append_right _ hx)) ha
 have og1:Og H ps (aW H [] H.roots):=Og.aW ⟨by simp,fun a ha=>by cases ha⟩ hroo;have og2:Og H ps (aW H (aW H [] H.roots) H.a7):=og1.aW hmou;have eM:aW H (aW H [] H.roots) H.a7=aW H [] (H.roots++H.a7):=by unfold aW;rw[List.foldl_append]
 have ho0:ordN H (1000-0) 0 (aW H (aW H [] H.roots) H.a7)=RR:=by rw[eM,←hRR];rfl
 obtain⟨l1,el1⟩:=ie (H:=H) (A:=H.a7) (M:=aW H [] H.roots);obtain⟨l2,el2⟩:=pJ (H:=H) (n:=1000-0) (k:=0) (M:=aW H (aW H [] H.roots) H.a7);rw[ho0]at el2
 have er:H.roots.map (cW H RR)=H.roots.map (cW H (aW H [] H.roots)):=by
  rw[el2,el1,List.append_assoc];exact tZ (fun x hx a ha=>ig hx ha)
 have em:H.a7.map (cW H RR)=H.a7.map (cW H (aW H (aW H [] H.roots) H.a7)):=by
  rw[el2];exact tZ (fun x hx a ha=>ig hx ha)
 have HRF:Hid (∀X,Below w.heap.size w X→∀(W:World) es vm,Sh X (X.heap.size+2+1) (X.heap.size+1) X.heap.size up (.slice a5 ds.length c5) W es vm→Og H ps (es.map Pd.pl)→Calls Tryz.prog 50 #[.pointer (some ⟨X.heap.size+1,0,none⟩),.slice a2 H.roots.length c2] W fun e w'=>GU X (X.heap.size+2+1) (X.heap.size+1) X.heap.size up (.slice a5 ds.length c5) H ds es W vm H.roots e w'):=fun X hX W es vm hs ho=>oq (hv.below hX) hF hI.2.1 hs ho (aa h.2.1 hX) hl2 (fun x hx=>⟨R.km (List.mem_append_left _ hx),hI.2.2.1 x hx⟩)
 have HMF:Hid (∀X,Below w.heap.size w X→∀(W:World) es vm,Sh X (X.heap.size+2+1) (X.heap.size+1) X.heap.size up (.slice a5 ds.length c5) W es vm→Og H ps (es.map Pd.pl)→Calls Tryz.prog 50 #[.pointer (some ⟨X.heap.size+1,0,none⟩),.slice a3 H.a7.length c3] W fun e w'=>GU X (X.heap.size+2+1) (X.heap.size+1) X.heap.size up (.slice a5 ds.length c5) H ds es W vm H.a7 e w'):=fun X hX W es vm hs ho=>oq (hv.below hX) hF hI.2.1 hs ho (aa h.2.2.1 hX) hl3 (fun x hx=>⟨R.km (List.mem_append_right _ hx),hI.2.2.2.1 x hx⟩)
 have HOB:Hid (∀X,Below w.heap.size w X→∀(W:World) es vm,Sh X (X.heap.size+2+1) (X.heap.size+1) X.heap.size up (.slice a5 ds.length c5) W es vm→Og H ps (es.map Pd.pl)→∀d ∈ ds,d.pl ∈ es.map Pd.pl→∃j:Nat,d.pl=(j:Int)∧Calls Tryz.prog 51 #[.pointer (some ⟨X.heap.size+1,0,none⟩),pdv d] W fun e w'=>ObA X (X.heap.size+2+1) (X.heap.size+1) X.heap.size up (.slice a5 ds.length c5) H ds es W vm (slotsOf H j) (idM (es.map Pd.pl) j) (uC (H.row.getD j 0)) (uF (H.row.getD j 0)) (uH (H.row.getD j 0)) e w'):=fun X hX W es vm hs ho d hd hin=>by
  obtain⟨j,e,hc,h6⟩:=hD d hd;have ep:d.pl=(j:Int):=by rw[e];rfl
  have oa:=ho.2 _ hin;rw[ep]at oa hin;have h7:uF (H.row.getD j 0)≠7:=by have:=oa.2.2;unfold fm at this;rwa [Int.toNat_natCast]at this
  refine⟨j,ep,?_⟩
  rw[e];exact CR (hv.below hX) hF hI.2.1 (aa h.1 hX) hl hs ho hc h6 h7 oa.1 hin
 have HR:Hid _:=R;have HO1:Hid _:=og1;have HO2:Hid _:=og2;have HON:Hid _:=ho0;have HER:Hid _:=er;have HEM:Hid _:=em;have HRR:Hid _:=hRR;clear B0 B1 h hv hF hI hD hl hl2 hl3 R hroo hmou og1 og2 eM ho0 el1 el2 er em hRR;go_enter Tryz.func22,Tryz.ntmps22;go_upto_region 1 with fail
 obtain⟨X,hX,q0,q1,BX⟩:=HALL.out;rw[←hX];clear hX HALL;have HBX:Hid _:=BX;have HQ0:Hid _:=q0;have HQ1:Hid _:=q1;have sX1:=lt_of_block q1;obtain⟨⟨m0,m1,m2,m3,m4,m5,m6,m7,m8,m9,m10⟩,_⟩:=aY q0
 have hLOW:∀V,Below X.heap.size X V→(V.cell? ⟨w.heap.size,5,none⟩=some (.slice a2 H.roots.length c2)∧V.cell? ⟨w.heap.size,6,none⟩=some (.slice a3 H.a7.length c3))∧gr.fh V (w.heap.size+1) 50 (.slice none 0 0) (.slice none 0 0) (.slice none 0 0) (.int .i64 0) (.int .i64 0):=fun V hV=>by
  obtain⟨⟨_,_,_,_,_,k5,k6,_⟩,_⟩:=aY ((hV.block _ (lt_of_block HQ0.out)).trans HQ0.out);exact⟨⟨k5,k6⟩,(hV.block _ (lt_of_block HQ1.out)).trans HQ1.out⟩
 have HLOW:Hid _:=hLOW;have SG:=C6 X up (.slice a5 ds.length c5) ds H.seed;have HSG:Hid _:=SG
 have y8:((X.alloc (.map #[] 0)).alloc (shb up (.slice a5 ds.length c5) X.heap.size (.slice none 0 0))).cell? ⟨w.heap.size,8,none⟩=some (.int .i64 H.seed):=by
  obtain⟨⟨_,_,_,_,_,_,_,_,k8,_⟩,_⟩:=aY (((((Below.refl X.heap.size X).alloc (Nat.le_refl _) (.map #[] 0)).alloc (by simp) (shb up (.slice a5 ds.length c5) X.heap.size (.slice none 0 0))).block _ (lt_of_block HQ0.out)).trans HQ0.out);exact k8
 clear q0 q1 BX SG hLOW;go_upto_region 2 with fail
 clear m0 m1 m2 m3 m4 m5 m6 m7 m8 m9 m10;go_upto_region 3 with fail
 clear y8;generalize hYY:((X.alloc (.map #[] 0)).alloc (shb up (.slice a5 ds.length c5) X.heap.size (.slice none 0 0))).alloc (gr.gb (.slice none 0 0) (.slice none 0 0) (.slice none 0 0) 0 H.seed)=Y at *;clear hYY
 have C1:=HRF.out X HBX.out Y [] (.slice none 0 0) HSG.out.sh ⟨by simp,fun a ha=>by cases ha⟩;have t5:=(HLOW.out Y HSG.out.sh.low).1.1
 have HR1:Hid (∀w1 rv vm1 es1,RfS X (X.heap.size+2+1) (X.heap.size+1) X.heap.size up (.slice a5 ds.length c5) H ds [] Y (.slice none 0 0) H.roots w1 rv vm1 es1→(∃f0 f1 f2,gr.fh w1 (X.heap.size+2) 50 f0 f1 f2 (.int .i64 0) (.int .i64 H.seed))∧ShG X (X.heap.size+1) X.heap.size up (.slice a5 ds.length c5) ds (X.heap.size+2) (w1.setCell ⟨X.heap.size+2,1,none⟩ rv) es1 vm1 ⟨[],H.roots.map (cW H RR),[],0,H.seed⟩∧es1.map Pd.pl=aW H [] H.roots):=fun w1 rv vm1 es1 hr=>by
  obtain⟨o,r,m,ms,gx⟩:=HSG.out.gr;obtain⟨g1,g2,g3,g4,g5⟩:=ShG.mid HSG.out.sh HSG.out.nC HSG.out.nM gx hr;have gf:=g1.roots g2 g3 g4 hr.ap;have er:=HER.out;refine⟨⟨_,_,_,g1.1⟩,⟨D5 hr.sr.sh HSG.out.nC HSG.out.nM HSG.out.lo 1 rv,fun d hd=>(hr.inD d hd).elim (fun hc=>by cases hc) id,HSG.out.lo,HSG.out.nC,HSG.out.nM,?_⟩,hr.met⟩
  rw[er];exact⟨_,_,_,_,gf⟩
 clear HRF;go_upto_region 4 with (go_at_call 50;refine C1.mono ?_;clear C1 t5;rintro e w1 ⟨ra,rn,rc,es1,vm1,rfl,hr1⟩;obtain⟨⟨f0,f1,f2,hf5⟩,sg1,hm1⟩:=HR1.out w1 _ vm1 es1 hr1;obtain⟨k0,k1,k2,k3,k4,kf⟩:=gr.ak hf5;have kf1:=kf 1;have HSG1:Hid _:=sg1;have HM1:Hid _:=hm1;clear hr1 hf5 kf sg1 hm1 HR1)
 clear k0 k1 k2 k3 k4 kf1;generalize w1.setCell ⟨X.heap.size+2,1,none⟩ (.slice ra rn rc)=Y1 at *
 have C2:=HMF.out X HBX.out Y1 es1 vm1 HSG1.out.sh (by rw[HM1.out];exact HO1.out);have t6:=(HLOW.out Y1 HSG1.out.sh.low).1.2
 have HR2:Hid (∀w2 rv vm2 es2,RfS X (X.heap.size+2+1) (X.heap.size+1) X.heap.size up (.slice a5 ds.length c5) H ds es1 Y1 vm1 H.a7 w2 rv vm2 es2→(∃f0 f1 f2,gr.fh w2 (X.heap.size+2) 50 f0 f1 f2 (.int .i64 0) (.int .i64 H.seed))∧ShL X (X.heap.size+1) X.heap.size up (.slice a5 ds.length c5) H ps ds (X.heap.size+2) RR 0 (w2.setCell ⟨X.heap.size+2,2,none⟩ rv)):=fun w2 rv vm2 es2 hr=>by
  obtain⟨o,r,m,ms,gx⟩:=HSG1.out.gr;obtain⟨g1,g2,g3,g4,g5⟩:=ShG.mid HSG1.out.sh HSG1.out.nC HSG1.out.nM gx hr;have hmet:=hr.met;rw[HM1.out]at hmet;rw[HM1.out]at g4;have gf:=g1.a7 g2 g3 g4 hr.ap;have em:=HEM.out;refine⟨⟨_,_,_,g1.1⟩,es2,vm2,⟨D5 hr.sr.sh HSG1.out.nC HSG1.out.nM HSG1.out.lo 2 rv,fun d hd=>(hr.inD d hd).elim (HSG1.out.inD d) id,HSG1.out.lo,HSG1.out.nC,HSG1.out.nM,?_⟩,by rw[hmet];exact HO2.out,Nat.zero_le _,by rw[hmet];exact HON.out⟩
  rw[em];exact⟨_,_,_,_,gf⟩
 clear HMF;go_upto_region 5 with (go_at_call 50;refine C2.mono ?_;clear C2 t6;rintro e w2 ⟨qa,qn,qc,es2,vm2,rfl,hr2⟩;obtain⟨⟨f3,f4,f5,hf5⟩,sg2⟩:=HR2.out w2 _ vm2 es2 hr2;obtain⟨k0,k1,k2,k3,k4,kf⟩:=gr.ak hf5;have kf2:=kf 2;have HSG2:Hid _:=sg2;clear hr2 hf5 kf sg2 HR2)
 clear k0 k1 k2 k3 k4 kf2;generalize w2.setCell ⟨X.heap.size+2,2,none⟩ (.slice qa qn qc)=Y2 at *;go_upto_region 6 with fail
 -- the objects
 go_loopw [6] (fun q wr=>∃i:Nat,q = .int .i64 (i:Int)∧ShL X (X.heap.size+1) X.heap.size up (.slice a5 ds.length c5) H ps ds (X.heap.size+2) RR i wr) (fun q _=>600-(intOf q).toNat);case atStart=>exact⟨0,rfl,HSG2.out⟩
 case round=>
  obtain⟨i,rfl,es,vm,sg,og,hie,hord⟩:=hrel;clear HSG HSG1 HSG2;have h500:=og.len HR.out;rw[List.length_map]at h500;obtain⟨ma,mc,hvm⟩:=aQ (bx sg.sh.own);subst hvm;obtain⟨o,r,m,ms,gx⟩:=sg.gr;obtain⟨oa,on,oc,ra',rn',rc',qa',qn',qc',eo,er,em⟩:=gr.bq (gr.fM gx.2.1);subst eo er em;obtain⟨⟨_,_,_,z3⟩,_⟩:=fu sg.sh.blk';by_cases hlt:i<es.length
  ·have hlt':(i:Int)<(es.length:Int):=by omega
   obtain⟨_,_,ev,_,_,_,hcs⟩:=bx sg.sh.own;injection ev with ev1 _ ev3
   subst ev1 ev3;obtain⟨mg,mo,ev4,_,hcell⟩:=hcs (by omega);subst ev4;have hcd:=hcell i hlt;have hdm:=bj hlt;have hpl:=C8 hlt;obtain⟨d,hd⟩:∃d,es.getD i pdD=d:=⟨_,rfl⟩
   rw[hd]at hcd hdm hpl;have hme:d.pl ∈ es.map Pd.pl:=List.mem_map_of_mem hdm;obtain⟨j,hj,OBJ⟩:=HOB.out X HBX.out wr.drew es (.slice (some ⟨mg,mo,none⟩) es.length mc) (sg.sh.below ((Below.refl _ _).drew)) og d (sg.inD d hdm) hme;rw[hj]at hpl
   have hms:ms.length≤1000000:=by
    have e:=congrArg List.length gx.2.1.1;simp at e;omega
   have HMID:Hid (∀V rv vm2 es2,RfS X (X.heap.size+2+1) (X.heap.size+1) X.heap.size up (.slice a5 ds.length c5) H ds es wr (.slice (some ⟨mg,mo,none⟩) es.length mc) (slotsOf H j) V rv vm2 es2→GrX V (X.heap.size+2) ⟨(List.range i).map (obS H RR),H.roots.map (cW H RR),H.a7.map (cW H RR),0,H.seed⟩ vm2 (.slice oa on oc) (.slice ra' rn' rc') (.slice qa' qn' qc') ms):=fun V rv vm2 es2 hr=>(ShG.mid sg.sh sg.nC sg.nM gx hr).1
   have HADD:Hid (∀w1 va vn vc es2 vm2 ua un uc V,RfS X (X.heap.size+2+1) (X.heap.size+1) X.heap.size up (.slice a5 ds.length c5) H ds es wr (.slice (some ⟨mg,mo,none⟩) es.length mc) (slotsOf H j) w1 (.slice va vn vc) vm2 es2→V.ownsRow (X.heap.size+2) 60 5 (.slice ua un uc) (ms.length+1) (gr.cellsO ms++gr.cellsO [⟨idM (es.map Pd.pl) j,uC (H.row.getD j 0),uF (H.row.getD j 0),uH (H.row.getD j 0),.slice va vn vc,(slotsOf H j).map (cW H (aW H (es.map Pd.pl) (slotsOf H j)))⟩])→(w1.alloc (gr.ob ⟨idM (es.map Pd.pl) j,uC (H.row.getD j 0),uF (H.row.getD j 0),uH (H.row.getD j 0),.slice va vn vc,(slotsOf H j).map (cW H (aW H (es.map Pd.pl) (slotsOf H j)))⟩)).grownBy V (Value.slice oa on oc).ownBlock→((Value.slice ua un uc).ownBlock=(Value.slice oa on oc).ownBlock∨(Value.slice ua un uc).ownBlock=some (w1.alloc (gr.ob ⟨idM (es.map Pd.pl) j,uC (H.row.getD j 0),uF (H.row.getD j 0),uH (H.row.getD j 0),.slice va vn vc,(slotsOf H j).map (cW H (aW H (es.map Pd.pl) (slotsOf H j)))⟩)).heap.size)→V.cell? ⟨X.heap.size+2,0,none⟩=some (.slice oa on oc)∧V.frozen? ⟨X.heap.size+2,0,none⟩=false∧ShL X (X.heap.size+1) X.heap.size up (.slice a5 ds.length c5) H ps ds (X.heap.size+2) RR (i+1) (V.setCell ⟨X.heap.size+2,0,none⟩ (.slice ua un uc))):=fun w1 va vn vc es2 vm2 ua un uc V q q2 q3 q4=>ES HR.out sg.sh sg.inD sg.lo sg.nC sg.nM gx og hlt hord hpl q q2 q3 q4
   have HAH:Hid (∀V rv vm2 es2,RfS X (X.heap.size+2+1) (X.heap.size+1) X.heap.size up (.slice a5 ds.length c5) H ds es wr.drew (.slice (some ⟨mg,mo,none⟩) es.length mc) (slotsOf H j) V rv vm2 es2→RfS X (X.heap.size+2+1) (X.heap.size+1) X.heap.size up (.slice a5 ds.length c5) H ds es wr (.slice (some ⟨mg,mo,none⟩) es.length mc) (slotsOf H j) V rv vm2 es2):=fun V rv vm2 es2 hr=>⟨hr.sr.ahead ((Below.refl _ _).drew),hr.met,hr.inD,hr.own,hr.ap⟩
   have HROW:Hid (∀w1 rv vm2 es2,RfS X (X.heap.size+2+1) (X.heap.size+1) X.heap.size up (.slice a5 ds.length c5) H ds es wr (.slice (some ⟨mg,mo,none⟩) es.length mc) (slotsOf H j) w1 rv vm2 es2→∀ {ob1:Obj},gr.lp (w1.alloc ob1) (X.heap.size+2) (.slice oa on oc) ms∧X.heap.size+2≤(w1.alloc ob1).heap.size):=fun w1 rv vm2 es2 hr {ob1}=>by
    have g:=(HMID.out w1 rv vm2 es2 hr).below ((Below.refl w1.heap.size w1).alloc (Nat.le_refl _) ob1);exact⟨g.2.1.2.1.1,Nat.le_of_lt (lt_of_block g.1)⟩
   have HZ0:Hid (wr.drew.cell? ⟨X.heap.size+2,0,none⟩=some (.slice oa on oc)):=(gr.ak gx.1).1;have HZ3:Hid (wr.drew.cell? ⟨X.heap.size+1,3,none⟩=some (.slice (some ⟨mg,mo,none⟩) es.length mc)):=z3;have HZD:Hid (wr.drew.cell? ⟨mg,mo+i*8,none⟩=some (.int .i64 d.s)∧wr.drew.cell? ⟨mg,mo+i*8+1,none⟩=some (.int .i64 d.f)∧wr.drew.cell? ⟨mg,mo+i*8+2,none⟩=some (.int .i64 d.c)∧wr.drew.cell? ⟨mg,mo+i*8+3,none⟩=some (.int .i64 d.h)∧wr.drew.cell? ⟨mg,mo+i*8+4,none⟩=some (.bool d.p)∧wr.drew.cell? ⟨mg,mo+i*8+5,none⟩=some (.bool d.m)∧wr.drew.cell? ⟨mg,mo+i*8+6,none⟩=some d.u∧wr.drew.cell? ⟨mg,mo+i*8+7,none⟩=some (.int .i64 d.pl)):=hcd;have HML:Hid _:=hms;obtain⟨sa,sn,sc,hdu⟩:∃a n c,d.u = .slice a n c:=sg.sh.sl d hdm
   clear HOB sg og hord gx hcs hcell hcd hdm hpl hme hms hd hj hie;generalize idM (es.map Pd.pl) j=idn at *;generalize uC (H.row.getD j 0)=cc at *;generalize uF (H.row.getD j 0)=ff at *;generalize uH (H.row.getD j 0)=gg at *;obtain⟨TR,hTR⟩:∃TR,(slotsOf H j).map (cW H (aW H (es.map Pd.pl) (slotsOf H j)))=TR:=⟨_,rfl⟩
   rw[hTR]at HADD;clear hTR;obtain⟨T,hT⟩:∃T,slotsOf H j=T:=⟨_,rfl⟩
   rw[hT]at OBJ HMID HADD HAH HROW;clear hT;go_upto_region 8 with fail
   clear z3;generalize hA0:(Act.mk _ [])=A0;have e4:A0.tmps.getD 4 undef = .pointer (some ⟨X.heap.size+1,0,none⟩):=by rw[←hA0];rfl
   have e5:A0.tmps.getD 5 undef = .pointer (some ⟨X.heap.size+2,0,none⟩):=by rw[←hA0];rfl
   have e6:A0.tmps.getD 6 undef = .int .i64 (i:Int):=by rw[←hA0];rfl
   have sz:A0.tmps.size=61:=by rw[←hA0];rfl
   refine tA (by kernel_rfl) DS9 (by simp) ?_ 14 6 8 9 10 11 12 rfl (by decide) (by decide) (by decide) (by decide) (by decide) (by decide) (by decide) (by decide) (by decide) (by decide) (by decide) (by decide) (by decide) (by decide) (by decide) (by decide) (by decide) (by decide) (by decide) (by decide) (by decide) dS9 Ge (FS9 X oa on oc mg mo mc es.length i d) (fun V=>V=wr.drew) (fun _ V=>V=wr.drew) (fun _ V=>V=wr.drew) (fun _ V=>V=wr.drew) (fun t V=>∃va vn vc es2 vm2,t = .agg #[.int .i64 idn,.int .i64 cc,.int .i64 ff,.int .i64 gg,.slice va vn vc]∧RfS X (X.heap.size+2+1) (X.heap.size+1) (X.heap.size) up (.slice a5 ds.length c5) H ds es wr (.slice (some ⟨mg,mo,none⟩) es.length mc) T  V (.slice va vn vc) vm2 es2) (fun t V=>∃w1 va vn vc es2 vm2,t = .slice (some ⟨w1.heap.size,0,none⟩) 1 1∧V=w1.alloc (gr.ob ⟨idn,cc,ff,gg,.slice va vn vc,TR⟩)∧RfS X (X.heap.size+2+1) (X.heap.size+1) (X.heap.size) up (.slice a5 ds.length c5) H ds es wr (.slice (some ⟨mg,mo,none⟩) es.length mc) T  w1 (.slice va vn vc) vm2 es2) (fun t V=>∃w1 va vn vc es2 vm2 ua un uc,t = .slice ua un uc∧RfS X (X.heap.size+2+1) (X.heap.size+1) (X.heap.size) up (.slice a5 ds.length c5) H ds es wr (.slice (some ⟨mg,mo,none⟩) es.length mc) T  w1 (.slice va vn vc) vm2 es2∧V.ownsRow (X.heap.size+2) 60 5 (.slice ua un uc) (ms.length+1) (gr.cellsO ms++gr.cellsO [⟨idn,cc,ff,gg,.slice va vn vc,TR⟩])∧(w1.alloc (gr.ob ⟨idn,cc,ff,gg,.slice va vn vc,TR⟩)).grownBy V (Value.slice oa on oc).ownBlock∧((Value.slice ua un uc).ownBlock=(Value.slice oa on oc).ownBlock∨(Value.slice ua un uc).ownBlock=some (w1.alloc (gr.ob ⟨idn,cc,ff,gg,.slice va vn vc,TR⟩)).heap.size)) (rfl) ?_ ?_ ?_ ?_ ?_ ?_ ?_ ?_ ?_ ?_ ?_ ?_ ?_ ?_
   ·intro k o ho;have hk:k<15:=(Array.getElem?_eq_some_iff.1 ho).1;rcases (show k=0∨k=1∨k=2∨k=3∨k=4∨k=5∨k=6∨k=7∨k=8∨k=9∨k=10∨k=11∨k=12∨k=13∨k=14 by omega) with rfl|rfl|rfl|rfl|rfl|rfl|rfl|rfl|rfl|rfl|rfl|rfl|rfl|rfl|rfl<;>(obtain rfl:=Option.some.inj ho;simp[Region.binds])
   ·intro o ho kk hkk;obtain rfl:=Option.some.inj ho;rcases (show kk=0∨kk=1∨kk=2∨kk=3∨kk=4∨kk=5∨kk=6∨kk=7∨kk=8∨kk=9∨kk=10∨kk=11∨kk=12∨kk=13 by omega) with rfl|rfl|rfl|rfl|rfl|rfl|rfl|rfl|rfl|rfl|rfl|rfl|rfl|rfl<;>simp[Region.binds]
   ·intro o ho;obtain rfl:=Option.some.inj ho;simp[Region.binds]
   ·intro o ho;obtain rfl:=Option.some.inj ho;simp[Region.binds]
   ·intro o ho;obtain rfl:=Option.some.inj ho;simp[Region.binds]
   ·intro o ho;obtain rfl:=Option.some.inj ho;simp[Region.binds]
   ·intro o ho;obtain rfl:=Option.some.inj ho;simp[Region.binds]
   ·intro k o u W hk hk1 hk2 hk3 hk4 hk5 hk6 ho hAB hF;have ev:∀s,DS9 s=true→s<61→(ovr DS9 A0 u).tmps[s]?.getD undef=u s:=fun s h1 h2=>(af _ _).symm.trans (aS h1 (by omega))
    have o4:(ovr DS9 A0 u).tmps[4]?.getD undef=_:=(af _ _).symm.trans ((ah (D:=DS9) (a0:=A0) (u:=u) (s:=4) rfl (by omega)).trans e4);have o5:(ovr DS9 A0 u).tmps[5]?.getD undef=_:=(af _ _).symm.trans ((ah (D:=DS9) (a0:=A0) (u:=u) (s:=5) rfl (by omega)).trans e5);have o6:(ovr DS9 A0 u).tmps[6]?.getD undef=_:=(af _ _).symm.trans ((ah (D:=DS9) (a0:=A0) (u:=u) (s:=6) rfl (by omega)).trans e6)
    have pz:W.cell? ⟨X.heap.size+2,0,none⟩=some (.slice oa on oc):=by
     rcases hAB with q|q|q|q|⟨va,vn,vc,es2,vm2,_,q⟩|⟨w1,va,vn,vc,es2,vm2,_,q2,q⟩|⟨w1,va,vn,vc,es2,vm2,ua,un,uc,_,q,q2,q3,q4⟩
     ·rw[q];exact HZ0.out
     ·rw[q];exact HZ0.out
     ·rw[q];exact HZ0.out
     ·rw[q];exact HZ0.out
     ·exact (gr.ak (HMID.out W _ _ _ q).1).1
     ·rw[q2];exact (gr.ak (gr.aJ (HMID.out w1 _ _ _ q).1 ((Below.refl _ _).alloc (Nat.le_refl _) _))).1
     ·exact (HADD.out w1 va vn vc es2 vm2 ua un uc W q q2 q3 q4).1
    clear hAB;rcases (show k=0∨k=1∨k=2∨k=3∨k=4∨k=5∨k=6∨k=7∨k=8∨k=9∨k=10∨k=11∨k=12∨k=13 by omega) with rfl|rfl|rfl|rfl|rfl|rfl|rfl|rfl|rfl|rfl|rfl|rfl|rfl|rfl
    all_goals obtain rfl:=Option.some.inj ho
    ·refine bg (v:=.pointer (some ⟨X.heap.size+2,0,none⟩)) rfl rfl ?_ rfl;simp only[execOp];go_simp;try go_num
     try (rw[IntKind.wrap_i64];omega)
    ·have x0:=(ev 37 rfl (by decide)).trans (hF 0 (by decide) (by simp[Region.binds]));refine bg (v:=.slice oa on oc) rfl rfl ?_ rfl;simp only[execOp];go_simp;try go_num
     try (rw[IntKind.wrap_i64];omega)
    ·refine bg (v:=.pointer (some ⟨X.heap.size+1,0,none⟩)) rfl rfl ?_ rfl;simp only[execOp];go_simp;try go_num
     try (rw[IntKind.wrap_i64];omega)
    ·refine bg (v:=.pointer (some ⟨X.heap.size+1,0,none⟩)) rfl rfl ?_ rfl;simp only[execOp];go_simp;try go_num
     try (rw[IntKind.wrap_i64];omega)
    ·have x3:=(ev 40 rfl (by decide)).trans (hF 3 (by decide) (by simp[Region.binds]));refine bg (v:=.pointer (some ⟨X.heap.size+1,0,none⟩)) rfl rfl ?_ rfl;simp only[execOp];go_simp;try go_num
     try (rw[IntKind.wrap_i64];omega)
    ·have x4:=(ev 41 rfl (by decide)).trans (hF 4 (by decide) (by simp[Region.binds]));refine bg (v:=.pointer (some ⟨X.heap.size+1,3,none⟩)) rfl rfl ?_ rfl;simp only[execOp];go_simp;try go_num
     try (rw[IntKind.wrap_i64];omega)
    ·exact absurd rfl hk1
    ·refine bg (v:=.int .i64 (i:Int)) rfl rfl ?_ rfl;simp only[execOp];go_simp;try go_num
     try (rw[IntKind.wrap_i64];omega)
    ·exact absurd rfl hk2
    ·exact absurd rfl hk3
    ·exact absurd rfl hk4
    ·exact absurd rfl hk5
    ·exact absurd rfl hk6
    ·refine bg (v:=.pointer (some ⟨X.heap.size+2,0,none⟩)) rfl rfl ?_ rfl;simp only[execOp];go_simp;try go_num
     try (rw[IntKind.wrap_i64];omega)
   ·intro o u W ho hA hF;obtain rfl:=Option.some.inj ho;have ev:∀s,DS9 s=true→s<61→(ovr DS9 A0 u).tmps[s]?.getD undef=u s:=fun s h1 h2=>(af _ _).symm.trans (aS h1 (by omega))
    have o4:(ovr DS9 A0 u).tmps[4]?.getD undef=_:=(af _ _).symm.trans ((ah (D:=DS9) (a0:=A0) (u:=u) (s:=4) rfl (by omega)).trans e4);have o5:(ovr DS9 A0 u).tmps[5]?.getD undef=_:=(af _ _).symm.trans ((ah (D:=DS9) (a0:=A0) (u:=u) (s:=5) rfl (by omega)).trans e5);have o6:(ovr DS9 A0 u).tmps[6]?.getD undef=_:=(af _ _).symm.trans ((ah (D:=DS9) (a0:=A0) (u:=u) (s:=6) rfl (by omega)).trans e6);have x5:=(ev 42 rfl (by decide)).trans (hF 5 (by decide) (by simp[Region.binds]));subst hA;refine gE (v:=.slice (some ⟨mg,mo,none⟩) es.length mc) (W':=wr.drew) rfl rfl ?_ rfl rfl;have zz:=HZ3.out;simp only[execOp];go_simp
   ·intro o u W ho hA hF;obtain rfl:=Option.some.inj ho;have ev:∀s,DS9 s=true→s<61→(ovr DS9 A0 u).tmps[s]?.getD undef=u s:=fun s h1 h2=>(af _ _).symm.trans (aS h1 (by omega))
    have o4:(ovr DS9 A0 u).tmps[4]?.getD undef=_:=(af _ _).symm.trans ((ah (D:=DS9) (a0:=A0) (u:=u) (s:=4) rfl (by omega)).trans e4);have o5:(ovr DS9 A0 u).tmps[5]?.getD undef=_:=(af _ _).symm.trans ((ah (D:=DS9) (a0:=A0) (u:=u) (s:=5) rfl (by omega)).trans e5);have o6:(ovr DS9 A0 u).tmps[6]?.getD undef=_:=(af _ _).symm.trans ((ah (D:=DS9) (a0:=A0) (u:=u) (s:=6) rfl (by omega)).trans e6);have x6:=(ev 43 rfl (by decide)).trans (hF 6 (by decide) (by simp[Region.binds]));have x7:=(ev 44 rfl (by decide)).trans (hF 7 (by decide) (by simp[Region.binds]));subst hA;refine gE (v:=.pointer (some ⟨mg,mo+i*8,none⟩)) (W':=wr.drew) rfl rfl ?_ rfl rfl;simp only[execOp];go_simp;try go_num
   ·intro o u W ho hA hF;obtain rfl:=Option.some.inj ho;have ev:∀s,DS9 s=true→s<61→(ovr DS9 A0 u).tmps[s]?.getD undef=u s:=fun s h1 h2=>(af _ _).symm.trans (aS h1 (by omega))
    have o4:(ovr DS9 A0 u).tmps[4]?.getD undef=_:=(af _ _).symm.trans ((ah (D:=DS9) (a0:=A0) (u:=u) (s:=4) rfl (by omega)).trans e4);have o5:(ovr DS9 A0 u).tmps[5]?.getD undef=_:=(af _ _).symm.trans ((ah (D:=DS9) (a0:=A0) (u:=u) (s:=5) rfl (by omega)).trans e5);have o6:(ovr DS9 A0 u).tmps[6]?.getD undef=_:=(af _ _).symm.trans ((ah (D:=DS9) (a0:=A0) (u:=u) (s:=6) rfl (by omega)).trans e6);have x8:=(ev 45 rfl (by decide)).trans (hF 8 (by decide) (by simp[Region.binds]));subst hA;obtain⟨p0,p1,p2,p3,p4,p5,p6,p7⟩:=HZD.out;refine gE (v:=pdv d) (W':=wr.drew) rfl rfl ?_ rfl rfl;simp only[execOp];go_simp
   ·intro o u W ho hA hF;obtain rfl:=Option.some.inj ho;have ev:∀s,DS9 s=true→s<61→(ovr DS9 A0 u).tmps[s]?.getD undef=u s:=fun s h1 h2=>(af _ _).symm.trans (aS h1 (by omega))
    have o4:(ovr DS9 A0 u).tmps[4]?.getD undef=_:=(af _ _).symm.trans ((ah (D:=DS9) (a0:=A0) (u:=u) (s:=4) rfl (by omega)).trans e4);have o5:(ovr DS9 A0 u).tmps[5]?.getD undef=_:=(af _ _).symm.trans ((ah (D:=DS9) (a0:=A0) (u:=u) (s:=5) rfl (by omega)).trans e5);have o6:(ovr DS9 A0 u).tmps[6]?.getD undef=_:=(af _ _).symm.trans ((ah (D:=DS9) (a0:=A0) (u:=u) (s:=6) rfl (by omega)).trans e6);have x2:=(ev 39 rfl (by decide)).trans (hF 2 (by decide) (by simp[Region.binds]));have x9:=(ev 46 rfl (by decide)).trans (hF 9 (by decide) (by simp[Region.binds]));subst hA;refine oD (f:=51) (args:=#[.pointer (some ⟨X.heap.size+1,0,none⟩),pdv d]) rfl rfl ?_ ?_
    ·simp only[execOp];go_simp
    ·exact OBJ.mono fun e w' ⟨va,vn,vc,es2,vm2,he,hq⟩=>⟨_,he,⟨va,vn,vc,es2,vm2,rfl,HAH.out w' _ _ _ hq⟩,trivial⟩
   ·intro o u W ho hA hF;obtain rfl:=Option.some.inj ho;have ev:∀s,DS9 s=true→s<61→(ovr DS9 A0 u).tmps[s]?.getD undef=u s:=fun s h1 h2=>(af _ _).symm.trans (aS h1 (by omega))
    have o4:(ovr DS9 A0 u).tmps[4]?.getD undef=_:=(af _ _).symm.trans ((ah (D:=DS9) (a0:=A0) (u:=u) (s:=4) rfl (by omega)).trans e4);have o5:(ovr DS9 A0 u).tmps[5]?.getD undef=_:=(af _ _).symm.trans ((ah (D:=DS9) (a0:=A0) (u:=u) (s:=5) rfl (by omega)).trans e5);have o6:(ovr DS9 A0 u).tmps[6]?.getD undef=_:=(af _ _).symm.trans ((ah (D:=DS9) (a0:=A0) (u:=u) (s:=6) rfl (by omega)).trans e6);obtain⟨va,vn,vc,es2,vm2,q0,q⟩:=hA;have x10:=(ev 47 rfl (by decide)).trans q0;refine gE (v:=.slice (some ⟨W.heap.size,0,none⟩) 1 1) (W':=W.alloc (gr.ob ⟨idn,cc,ff,gg,.slice va vn vc,TR⟩)) rfl rfl ?_ ⟨W,va,vn,vc,es2,vm2,rfl,rfl,q⟩ trivial;simp only[execOp];go_simp
   ·intro o u W ho hA hF;obtain rfl:=Option.some.inj ho;have ev:∀s,DS9 s=true→s<61→(ovr DS9 A0 u).tmps[s]?.getD undef=u s:=fun s h1 h2=>(af _ _).symm.trans (aS h1 (by omega))
    have o4:(ovr DS9 A0 u).tmps[4]?.getD undef=_:=(af _ _).symm.trans ((ah (D:=DS9) (a0:=A0) (u:=u) (s:=4) rfl (by omega)).trans e4);have o5:(ovr DS9 A0 u).tmps[5]?.getD undef=_:=(af _ _).symm.trans ((ah (D:=DS9) (a0:=A0) (u:=u) (s:=5) rfl (by omega)).trans e5);have o6:(ovr DS9 A0 u).tmps[6]?.getD undef=_:=(af _ _).symm.trans ((ah (D:=DS9) (a0:=A0) (u:=u) (s:=6) rfl (by omega)).trans e6);have x1:=(ev 38 rfl (by decide)).trans (hF 1 (by decide) (by simp[Region.binds]));obtain⟨w1,va,vn,vc,es2,vm2,q0,q2,q⟩:=hA;subst q2;have x11:=(ev 48 rfl (by decide)).trans q0;obtain⟨s1,s2⟩:=HROW.out w1 _ _ _ q;obtain⟨ua,un,uc,w6,hr,r1,r2,r3⟩:=D6 (m1:=⟨idn,cc,ff,gg,.slice va vn vc,TR⟩) s1 ⟨_,_,_,rfl⟩ (heap_alloc_new w1 _) HML.out s2 47;refine gE (v:=.slice ua un uc) (W':=w6) rfl rfl ?_ ⟨w1,va,vn,vc,es2,vm2,ua,un,uc,rfl,q,r1,r2,r3⟩ trivial;simp[execOp,resolve,invoke,builtin,Act.eval,x1,x11,hr,Result.andThen]
   ·intro o u W ho hA hF;obtain rfl:=Option.some.inj ho;have ev:∀s,DS9 s=true→s<61→(ovr DS9 A0 u).tmps[s]?.getD undef=u s:=fun s h1 h2=>(af _ _).symm.trans (aS h1 (by omega))
    have o4:(ovr DS9 A0 u).tmps[4]?.getD undef=_:=(af _ _).symm.trans ((ah (D:=DS9) (a0:=A0) (u:=u) (s:=4) rfl (by omega)).trans e4);have o5:(ovr DS9 A0 u).tmps[5]?.getD undef=_:=(af _ _).symm.trans ((ah (D:=DS9) (a0:=A0) (u:=u) (s:=5) rfl (by omega)).trans e5);have o6:(ovr DS9 A0 u).tmps[6]?.getD undef=_:=(af _ _).symm.trans ((ah (D:=DS9) (a0:=A0) (u:=u) (s:=6) rfl (by omega)).trans e6);obtain⟨w1,va,vn,vc,es2,vm2,ua,un,uc,q0,q,q2,q3,q4⟩:=hA;have x12:=(ev 49 rfl (by decide)).trans q0;have x13:=(ev 50 rfl (by decide)).trans (hF 13 (by decide));obtain⟨u1,u2,u3⟩:=HADD.out w1 va vn vc es2 vm2 ua un uc W q q2 q3 q4;have HU3:Hid _:=u3;clear q q2 q3 q4 u3 hF;refine mj (W':=W.setCell ⟨X.heap.size+2,0,none⟩ (.slice ua un uc)) ?_ ?_ ?_
    ·exact rfl
    ·simp only[execOp];go_simp
    ·subst hA0;clear ev o4 o5 o6 x12 x13 e4 e5 e6 sz;simp[ovr,DS9,List.range,List.range.loop];go_wp2;exact⟨⟨i+1,by go_num,HU3.out⟩,by simp[intOf];omega⟩
  ·have e:i=es.length:=by omega
   subst e;have hlt':¬(es.length:Int)<(es.length:Int):=by omega
   have hend:es.map Pd.pl=RR:=by
    rw[←hord,zm (by rw[List.length_map];omega)]
   rw[←HRR.out]at hend gx;have LOW:=HLOW.out wr sg.sh.low;have HEND:Hid (∀V,Ch [X.heap.size+2,w.heap.size+1] wr V→ShA w H ds (.returned (.tuple #[gr.gv (.slice oa on oc) (.slice ra' rn' rc') (.slice qa' qn' qc') ((es.length:Int)+1) H.seed,.slice ma es.length mc])) V):=fun V hV=>Gf HBX.out sX1 sg.sh sg.inD sg.lo gx hend rfl hV
   have eon:on=es.length:=by
    have e1:=congrArg List.length gx.2.1.1;obtain⟨a',c',e2,_⟩:=(gr.fM gx.2.1).2.1.1;injection e2 with _ e2 _
    simp at e1;omega
   subst eon;obtain⟨k0,k1,k2,k3,k4,kf⟩:=gr.ak gx.1;have kf3:=kf 3;have HT:Hid _:=gx.1;have HL5:Hid _:=LOW.2;have HZ3:Hid _:=sg.sh.blk';clear sg og hord gx LOW kf HOB hend;go_upto_region 10 with fail
   clear k0 k1 k2 k3 k4 kf3 z3;have hC3:Ch [X.heap.size+2] wr (wr.setCell ⟨X.heap.size+2,3,none⟩ (.int .i64 ((es.length:Int)+1))):=aH _ _ _ _;have T3:=gr.uG HT.out (.int .i64 ((es.length:Int)+1));have L3:=gr.eV HL5.out (GY hC3) (by simp;omega);have Z3:=(hC3.block _ (lt_of_block HZ3.out) (by simp)).trans HZ3.out;have HC3:Hid _:=hC3;generalize wr.setCell ⟨X.heap.size+2,3,none⟩ (.int .i64 ((es.length:Int)+1))=Y3 at *;obtain⟨k0,k1,k2,k3,k4,_⟩:=gr.ak T3;obtain⟨j0,j1,j2,j3,j4,jf⟩:=gr.ak L3;obtain⟨⟨_,_,_,z3⟩,_⟩:=fu Z3;have jf0:=jf 0;have jf1:=jf 1;have jf2:=jf 2;have jf3:=jf 3;have jf4:=jf 4;have hne:¬X.heap.size+1=w.heap.size+1:=by omega
   have HL3:Hid _:=L3;clear T3 L3 Z3 jf hC3;have HV5:Hid (∃V5,V5=(((((Y3.setCell ⟨w.heap.size+1,0,none⟩ (.slice oa es.length oc)).setCell ⟨w.heap.size+1,1,none⟩ (.slice ra' rn' rc')).setCell ⟨w.heap.size+1,2,none⟩ (.slice qa' qn' qc')).setCell ⟨w.heap.size+1,3,none⟩ (.int .i64 ((es.length:Int)+1))).setCell ⟨w.heap.size+1,4,none⟩ (.int .i64 H.seed)).drew∧gr.fh V5 (w.heap.size+1) 50 (.slice oa es.length oc) (.slice ra' rn' rc') (.slice qa' qn' qc') (.int .i64 ((es.length:Int)+1)) (.int .i64 H.seed)∧ShA w H ds (.returned (.tuple #[gr.gv (.slice oa es.length oc) (.slice ra' rn' rc') (.slice qa' qn' qc') ((es.length:Int)+1) H.seed,.slice ma es.length mc])) V5):=⟨_,rfl,gr.pT HL3.out _ _ _ _ _,HEND.out _ (Hy HC3.out (E9 Y3 (w.heap.size+1) _ _ _ _ _))⟩;clear HEND HC3 HL3;go_region_law (fail);all_goals go_wp2_with fail
   all_goals obtain⟨V5,hV5,f5,a5'⟩:=HV5.out
   all_goals rw[←hV5]
   all_goals exact bodyPost_ret (Hx rfl rfl rfl f5) rfl a5'
end Go.Proofs.YtocidankimefpaaGreatDoor.hp
