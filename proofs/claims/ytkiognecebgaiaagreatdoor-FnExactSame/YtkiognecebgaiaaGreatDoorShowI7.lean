/-
  Chapter 10 as the program has it: an object that is shown.
  Made from the template ShowI7 (mkshowi7.py).
-/
import Derived.Test.YtkiognecebgaiaaGreatDoorM19
import Derived.Test.YtkiognecebgaiaaGreatDoorM4
import Derived.Test.YtkiognecebgaiaaGreatDoorM2
import Derived.Test.YtkiognecebgaiaaGreatDoorM15
namespace Go.Proofs.YtkiognecebgaiaaGreatDoor.hp
open Go.RowKit rows heads words walks Go.Maps region
set_option maxRecDepth 100000
set_option linter.unusedVariables false
set_option linter.unusedSimpArgs false
theorem slots_atQ {w:World} {b off:Nat} {xs:List Int} {j:Nat} (hl:xs.length≤1000) (hc:chunk xs j≠0) (h6:uF (xs.getD j 0)≠6) :
    Calls Tryz.prog 158 #[cv (uS (xs.getD j 0)) (uF (xs.getD j 0)) (uC (xs.getD j 0)) (uH (xs.getD j 0)) (uP (xs.getD j 0)) (uM (xs.getD j 0)) (.slice (some ⟨b,off+j,none⟩) (chunk xs j).toNat (chunk xs j).toNat)] w fun e w'=>e = .returned (piece (some ⟨b,off+j,none⟩) 1 (cnP (pdOf (some ⟨b,off,none⟩) xs j)))∧Below w.heap.size w w':=by
 have q:=chunk_fits hc h6
 have hn:(if uF (xs.getD j 0)=7 then 1 else uS (xs.getD j 0))=((cnP (pdOf (some ⟨b,off,none⟩) xs j):Nat):Int):=by
  rw[cnP_of]
  by_cases h7:uF (xs.getD j 0)=7
  ·rw[if_pos h7];first|rw[if_pos h7];rfl|omega
  ·rw[if_neg h7];first|(rw[if_neg h7];omega)|omega
 have hle:1+cnP (pdOf (some ⟨b,off,none⟩) xs j)≤(chunk xs j).toNat:=by
  rw[cnP_of]
  by_cases h7:uF (xs.getD j 0)=7
  ·rw[if_pos h7];first|rw[if_pos h7];rfl|omega
  ·rw[if_neg h7];first|(rw[if_neg h7];omega)|omega
 exact slots_any _ _ _ _ _ _ b (off+j) (chunk xs j).toNat (cnP (pdOf (some ⟨b,off,none⟩) xs j)) w (by omega) hn hle
theorem slots_hereQ {w:World} {b off rc:Nat} {xs:List Int} (hx:IntsAt w (.slice (some ⟨b,off,none⟩) xs.length rc) xs) (hl:xs.length≤1000) {j sn:Nat} (hc:chunk xs j≠0) (h6:uF (xs.getD j 0)≠6) (h7:uF (xs.getD j 0)≠7) (hs:uS (xs.getD j 0)=(sn:Int)) :
    IntsAt w (piece (some ⟨b,off+j,none⟩) 1 sn) ((xs.drop (j+1)).take sn):=by
 have q:=chunk_fits hc h6
 by_cases h0:sn=0
 ·subst h0
  rw[piece_none,List.take_zero]
  exact⟨some ⟨b,off+j,none⟩,0,rfl,by simp,by decide,fun _=>rfl,fun h=>by simp at h⟩
 ·rw[piece_at b (off+j) 1 _ (by omega)]
  have:=piece_is hx (by omega) (j+1) sn (by omega)
  rw[piece_at b off (j+1) _ (by omega)]at this
  rwa [show off+j+1=off+(j+1) by omega]
theorem slotsOf_natQ {H:Hp} {j sn:Nat} (h6:uF (H.row.getD j 0)≠6) (h7:uF (H.row.getD j 0)≠7) (hs:uS (H.row.getD j 0)=(sn:Int)):slotsOf H (j:Int)=(H.row.drop (j+1)).take sn:=by
 unfold slotsOf cnS
 rw[Int.toNat_natCast,if_neg h7,if_neg h6,hs,Int.toNat_natCast]
theorem row_baseQ {w:World} {base base' size n:Nat} {t:TypeId} {v:Value} {xs:List Value} (h:w.ownsRow base t size v n xs) (hb:base'≤base):w.ownsRow base' t size v n xs:=by
 obtain⟨h1,h2|⟨g,c,cur,e,hg,r⟩⟩:=h
 ·exact⟨h1,.inl h2⟩
 ·exact⟨h1,.inr ⟨g,c,cur,e,Nat.le_trans hb hg,r⟩⟩
theorem res_ob {fn:Func} {tmps:Array Value} {X:World} {j b:Nat} {c0 c1 c2 c3 c4:Value} (hf:fn.results=#[.cell j 47]) (h2:tmps[j]? = some (.pointer (some ⟨b,0,none⟩))) (hX:gr.Five X b 47 c0 c1 c2 c3 c4) :
    (results fn tmps).run Tryz.prog X = .ok (.agg #[c0,c1,c2,c3,c4]) X:=by
 obtain⟨k0,k1,k2,k3,k4,_⟩:=gr.five_cells hX
 clear hX
 simp[results,hf,h2,go_sem,k0,k1,k2,k3,k4]
theorem RfS.from {W0:World} {base C mb:Nat} {up:Int} {v:Value} {H:Hp} {ds es:List Pd} {W w2 V:World} {vm vm1 vm2 rv:Value} {done:List Int} {es2:List Pd} (hs:SR W0 base C mb up v W vm w2 es vm1) (h:RfS W0 base C mb up v H ds es w2 vm1 done V rv vm2 es2):RfS W0 base C mb up v H ds es W vm done V rv vm2 es2:=
 ⟨hs.trans h.sr,h.met,h.inD,row_baseQ h.own hs.ch.size,h.ap⟩
theorem RfS.chS {W0:World} {base C mb:Nat} {up:Int} {v:Value} {H:Hp} {ds es:List Pd} {W V V':World} {vm vm2 rv:Value} {done:List Int} {es2:List Pd} {S:List Nat} (h:RfS W0 base C mb up v H ds es W vm done V rv vm2 es2) (hc:Ch S V V') (hS:∀k ∈ S,k ∉ blk vm2∧k ∉ blk rv∧W.heap.size≤k) (hb:base≤W.heap.size) (h0:W0.heap.size≤W.heap.size):RfS W0 base C mb up v H ds es W vm done V' rv vm2 es2:=
 ⟨h.sr.chR hc (fun k hk=>⟨(hS k hk).1,(hS k hk).2.2⟩) hb h0,h.met,h.inD,gr.row_ch h.own (chGH hc) (fun k hk e=>(hS k e).2.1 hk),h.ap⟩
def dO7 (k:Nat):Nat:=5+k
theorem dO7_inj:∀k,k<21→∀j,j<21→dO7 j=dO7 k→j=k:=fun k _ j _ e=>by unfold dO7 at e;omega
def DO7 (s:Nat):Bool:=decide (5≤s)&&decide (s≤25)
def FO7 (C:Nat) (W9:World) (sn:Nat) (f c g:Int) (pb mk:Bool) (b off j cn:Nat) (idn:Int) (pa:Option Addr) (k:Nat) (t:Value):Prop:=
 match k with
 |0=>t = .pointer (some ⟨C,0,none⟩)
 |1=>t=pdv ⟨(sn:Int),f,c,g,pb,mk,.slice (some ⟨b,off+j,none⟩) cn cn,(j:Int)⟩
 |2=>t = .int .i64 idn
 |3=>t = .pointer (some ⟨W9.heap.size,0,none⟩)
 |4=>t = .pointer (some ⟨W9.heap.size,0,none⟩)
 |5=>t = .pointer (some ⟨W9.heap.size,2,none⟩)
 |6=>t = .int .i64 c
 |7=>t = .pointer (some ⟨W9.heap.size,0,none⟩)
 |8=>t = .pointer (some ⟨W9.heap.size,0,none⟩)
 |9=>t = .pointer (some ⟨W9.heap.size,1,none⟩)
 |10=>t = .int .i64 f
 |11=>t = .pointer (some ⟨W9.heap.size,0,none⟩)
 |12=>t = .pointer (some ⟨W9.heap.size,0,none⟩)
 |13=>t = .pointer (some ⟨W9.heap.size,3,none⟩)
 |14=>t = .int .i64 g
 |15=>t = .pointer (some ⟨C,0,none⟩)
 |16=>t = .pointer (some ⟨W9.heap.size,0,none⟩)
 |17=>t=cv (sn:Int) f c g pb mk (.slice (some ⟨b,off+j,none⟩) cn cn)
 |18=>t = .slice pa sn sn
 |19=>True
 |20=>True
 |_=>False
def ObA (W0:World) (base C mb:Nat) (up:Int) (v:Value) (H:Hp) (ds es:List Pd) (W:World) (vm:Value) (l:List Int) (i c f g:Int) (e:Ending) (w':World):Prop:=∃va vn vc es' vm',e = .returned (.agg #[.int .i64 i,.int .i64 c,.int .i64 f,.int .i64 g,.slice va vn vc])∧RfS W0 base C mb up v H ds es W vm l w' (.slice va vn vc) vm' es'
set_option maxHeartbeats 32000000 in
theorem objOf_any {W0:World} {base C mb:Nat} {up:Int} {a:Option Addr} {cap:Nat} {H:Hp} {ps:List Int} {ds:List Pd} {sl:Pd→List Int} (hv:RoomsAt W0 (.slice a ds.length cap) ds sl) (hF:FolP H ps ds sl) (hr:AllI H.row) {b off rc:Nat} (hx:IntsAt W0 (.slice (some ⟨b,off,none⟩) H.row.length rc) H.row) (hl:H.row.length≤1000)
    {W9:World} {es:List Pd} {vm:Value} (h:Sh W0 base C mb up (.slice a ds.length cap) W9 es vm) (hog:Og H ps (es.map Pd.pl)) {j:Nat} (hc:chunk H.row j≠0) (h6:uF (H.row.getD j 0)≠6) (h7:uF (H.row.getD j 0)≠7) (hjp:(j:Int) ∈ ps) (hin:(j:Int) ∈ es.map Pd.pl) :
    Calls Tryz.prog 136 #[.pointer (some ⟨C,0,none⟩),pdv (pdOf (some ⟨b,off,none⟩) H.row j)] W9 fun e w'=>ObA W0 base C mb up (.slice a ds.length cap) H ds es W9 vm (slotsOf H j) (idM (es.map Pd.pl) j) (uC (H.row.getD j 0)) (uF (H.row.getD j 0)) (uH (H.row.getD j 0)) e w':=by
 have q:=chunk_fits hc h6
 obtain⟨sn,hsn⟩:∃sn:Nat,uS (H.row.getD j 0)=(sn:Int):=⟨(uS (H.row.getD j 0)).toNat,by omega⟩
 have hso:=slotsOf_natQ h6 h7 hsn
 have hji:I64 (j:Int):=⟨by omega,by omega⟩
 have SI0:=slots_hereQ hx hl hc h6 h7 hsn
 have hcn:cnP (pdOf (some ⟨b,off,none⟩) H.row j)=sn:=by rw[cnP_of,if_neg h7,hsn,Int.toNat_natCast]
 have SLA:∀V,Calls Tryz.prog 158 _ V _:=fun V=>slots_atQ (w:=V) (b:=b) (off:=off) hl hc h6
 rw[hcn]at SLA
 have epd:pdOf (some ⟨b,off,none⟩) H.row j=⟨uS (H.row.getD j 0),uF (H.row.getD j 0),uC (H.row.getD j 0),uH (H.row.getD j 0),uP (H.row.getD j 0),uM (H.row.getD j 0),.slice (some ⟨b,off+j,none⟩) (chunk H.row j).toNat (chunk H.row j).toNat,j⟩:=by
  unfold pdOf
  rw[piece_at b off j _ (by omega)]
 rw[epd]
 have hsl20:((H.row.drop (j+1)).take sn).length=sn:=by rw[List.length_take,List.length_drop];omega
 have hall:∀x ∈ (H.row.drop (j+1)).take sn,wordIn H ps x=true∧I64 x:=fun x hx'=>⟨hF.rt.slot_in hjp (by rw[hso];exact hx'),hr x (List.mem_of_mem_drop (List.mem_of_mem_take hx'))⟩
 obtain⟨pa,hpa⟩:∃pa,piece (some ⟨b,off+j,none⟩) 1 sn = .slice pa sn sn:=⟨_,rfl⟩
 rw[hpa]at SI0 SLA
 rw[hsn]at SLA ⊢
 rw[hso]
 have hsn1000:sn≤1000:=by omega
 have hel:es.length≤1000:=by have:=hog.len hF.rt;rw[List.length_map]at this;omega
 clear hsn hcn epd hpa q hc h6 h7 hjp hso
 generalize uF (H.row.getD j 0)=f at *
 generalize uC (H.row.getD j 0)=c at *
 generalize uH (H.row.getD j 0)=g at *
 generalize uP (H.row.getD j 0)=pb at *
 generalize uM (H.row.getD j 0)=mk at *
 generalize (chunk H.row j).toNat=cn at *
 obtain⟨T,hT⟩:∃T,(H.row.drop (j+1)).take sn=T:=⟨_,rfl⟩
 rw[hT]at SI0 hsl20 hall ⊢
 clear hT
 rw[←hsl20]at SI0
 have hpaT:T.length=sn:=hsl20
 have B1:Below W9.heap.size W9 (W9.alloc (pdb ⟨(sn:Int),f,c,g,pb,mk,.slice (some ⟨b,off+j,none⟩) cn cn,(j:Int)⟩)):=(Below.refl _ _).alloc (Nat.le_refl _) _
 have BX:=B1.alloc B1.size (Obj.cells #[.int .i64 0,.int .i64 0,.int .i64 0,.int .i64 0,.slice none 0 0] 47)
 have QP:((W9.alloc (pdb ⟨(sn:Int),f,c,g,pb,mk,.slice (some ⟨b,off+j,none⟩) cn cn,(j:Int)⟩)).alloc (Obj.cells #[.int .i64 0,.int .i64 0,.int .i64 0,.int .i64 0,.slice none 0 0] 47)).heap[W9.heap.size]? = some (pdb ⟨(sn:Int),f,c,g,pb,mk,.slice (some ⟨b,off+j,none⟩) cn cn,(j:Int)⟩):=heap_alloc2_old _ _ _
 have QO:gr.Five ((W9.alloc (pdb ⟨(sn:Int),f,c,g,pb,mk,.slice (some ⟨b,off+j,none⟩) cn cn,(j:Int)⟩)).alloc (Obj.cells #[.int .i64 0,.int .i64 0,.int .i64 0,.int .i64 0,.slice none 0 0] 47)) (W9.heap.size+1) 47 (.int .i64 0) (.int .i64 0) (.int .i64 0) (.int .i64 0) (.slice none 0 0):=heap_alloc2_new _ _ _
 have HX:Hid (∃X,X=(W9.alloc (pdb ⟨(sn:Int),f,c,g,pb,mk,.slice (some ⟨b,off+j,none⟩) cn cn,(j:Int)⟩)).alloc (Obj.cells #[.int .i64 0,.int .i64 0,.int .i64 0,.int .i64 0,.slice none 0 0] 47)∧Below W9.heap.size W9 X∧X.heap[W9.heap.size]? = some (pdb ⟨(sn:Int),f,c,g,pb,mk,.slice (some ⟨b,off+j,none⟩) cn cn,(j:Int)⟩)∧gr.Five X (W9.heap.size+1) 47 (.int .i64 0) (.int .i64 0) (.int .i64 0) (.int .i64 0) (.slice none 0 0)):=⟨_,rfl,BX,QP,QO⟩
 clear B1 BX QP QO
 have hmet:metE es ⟨(sn:Int),f,c,g,pb,mk,.slice (some ⟨b,off+j,none⟩) cn cn,(j:Int)⟩=es:=if_pos hin
 have hmee:meet (es.map Pd.pl) (some (j:Int))=es.map Pd.pl:=if_pos hin
 have HH:Hid _:=h
 have HID0:Hid (∀V,Below W9.heap.size W9 V→Calls Tryz.prog 157 #[.pointer (some ⟨C,0,none⟩),pdv ⟨(sn:Int),f,c,g,pb,mk,.slice (some ⟨b,off+j,none⟩) cn cn,(j:Int)⟩] V fun e w'=>e = .returned (.int .i64 (idM (es.map Pd.pl) (j:Int)))∧∃vm',SR W0 base C mb up (.slice a ds.length cap) V vm w' es vm'):=fun V hV=>by
  have:=idOf_any (h.below hV) hel (ds':=(sn:Int)) (df:=f) (dc:=c) (dh:=g) (dp:=pb) (dm:=mk) (sa:=some ⟨b,off+j,none⟩) (sn:=cn) (sc:=cn) hji
  rw[hmet,hmee]at this
  exact this
 have HRS:Hid (∀V vm1,Sh W0 base C mb up (.slice a ds.length cap) V es vm1→Calls Tryz.prog 135 #[.pointer (some ⟨C,0,none⟩),.slice pa sn sn] V fun e w'=>∃va vn vc es' vm',e = .returned (.slice va vn vc)∧RfS W0 base C mb up (.slice a ds.length cap) H ds es V vm1 T w' (.slice va vn vc) vm' es'):=fun V vm1 hs=>by
  have:=refsOf_any hv hF hr hs hog (la:=pa) (lc:=T.length) (l:=T) SI0 (by omega) hall
  rwa [hpaT]at this
 have HSA:Hid _:=SLA
 have hbz:=h.bz
 have h0:=h.low.size
 generalize hidn:idM (es.map Pd.pl) (j:Int)=idn at *
 clear hv hF hr hx hl h hog hin hji SI0 SLA hsl20 hall hmet hmee hel hidn hpaT hsn1000
 go_enter Tryz.func136,Tryz.ntmps136
 go_upto_region 1 with fail
 obtain⟨X,hX,BX,QP,QO⟩:=HX.out
 rw[←hX]
 clear hX HX
 have hXs:=lt_of_block QO
 have HID:=HID0.out X.drew BX.drew
 have HSR0:Hid (SR W0 base C mb up (.slice a ds.length cap) X vm X.drew es vm):=(SR.refl (HH.out.below BX)).below ((Below.refl _ _).drew)
 have HKP:Hid (∀V es3 vm3,SR W0 base C mb up (.slice a ds.length cap) X vm V es3 vm3→V.heap[W9.heap.size]? = some (pdb ⟨(sn:Int),f,c,g,pb,mk,.slice (some ⟨b,off+j,none⟩) cn cn,(j:Int)⟩)∧gr.Five V (W9.heap.size+1) 47 (.int .i64 0) (.int .i64 0) (.int .i64 0) (.int .i64 0) (.slice none 0 0)):=fun V es3 vm3 hs=>by
  obtain⟨l1,l2,l3⟩:=HH.out.lt
  have hn:∀k,W9.heap.size≤k→¬shF C mb vm k:=fun k hk hc=>by
   rcases hc with e|e|e
   ·omega
   ·omega
   ·have:=(l3 k e).2;omega
  exact⟨(hs.ch.block _ (by omega) (hn _ (Nat.le_refl _))).trans QP,(hs.ch.block _ hXs (hn _ (by omega))).trans QO⟩
 have HEND:Hid (∀V va vn vc w2 vm1 vm2 es2,SR W0 base C mb up (.slice a ds.length cap) X vm w2 es vm1→RfS W0 base C mb up (.slice a ds.length cap) H ds es w2 vm1 T V (.slice va vn vc) vm2 es2→ObA W0 base C mb up (.slice a ds.length cap) H ds es W9 vm T idn c f g (Ending.returned (.agg #[.int .i64 idn,.int .i64 c,.int .i64 f,.int .i64 g,.slice va vn vc])) (((((V.setCell ⟨W9.heap.size+1,0,none⟩ (.int .i64 idn)).setCell ⟨W9.heap.size+1,1,none⟩ (.int .i64 c)).setCell ⟨W9.heap.size+1,2,none⟩ (.int .i64 f)).setCell ⟨W9.heap.size+1,3,none⟩ (.int .i64 g)).setCell ⟨W9.heap.size+1,4,none⟩ (.slice va vn vc))):=by
  intro V va vn vc w2 vm1 vm2 es2 q1 q2
  obtain⟨l1,l2,l3⟩:=HH.out.lt
  have hw2:=q1.ch.size
  refine⟨va,vn,vc,es2,vm2,rfl,((q2.from q1).from (SR.ahead (SR.refl (HH.out.below BX)) BX)).chS (chHG (gr.five_other _ _ _ _ _)) (fun k hk => ?_) hbz h0⟩
  have e:k=W9.heap.size+1:=by simpa using hk
  subst e
  refine⟨fun hc => ?_,fun hc => ?_,Nat.le_succ _⟩
  ·rcases q2.sr.nw _ hc with e|e
   ·rcases q1.nw _ e with e|e
    ·have:=(l3 _ e).2;omega
    ·omega
   ·omega
  ·have:=(gr.blk_lt q2.own _ hc).1
   omega
 clear HID0 QP QO BX HH
 generalize hA0:(Act.mk _ [])=A0
 have e0:A0.tmps.getD 0 undef = .pointer (some ⟨C,0,none⟩):=by rw[←hA0];rfl
 have e3:A0.tmps.getD 3 undef = .pointer (some ⟨W9.heap.size,0,none⟩):=by rw[←hA0];rfl
 have e4:A0.tmps.getD 4 undef = .pointer (some ⟨W9.heap.size+1,0,none⟩):=by rw[←hA0];rfl
 have sz:A0.tmps.size=26:=by rw[←hA0];rfl
 refine wp_region_four (by kernel_rfl) DO7 (by simp) ?_ 21 2 18 19 20 rfl (by decide) (by decide) (by decide) (by decide) (by decide) (by decide) (by decide) (by decide) (by decide) (by decide) dO7 dO7_inj (FO7 C W9 sn f c g pb mk b off j cn idn pa) (fun V=>V=X.drew) (fun t V=>∃vm1,SR W0 base C mb up (.slice a ds.length cap) X vm V es vm1) (fun t V=>∃vm1,SR W0 base C mb up (.slice a ds.length cap) X vm V es vm1) (fun t V=>∃va vn vc w2 vm1 vm2 es2,t = .slice va vn vc∧SR W0 base C mb up (.slice a ds.length cap) X vm w2 es vm1∧RfS W0 base C mb up (.slice a ds.length cap) H ds es w2 vm1 T V (.slice va vn vc) vm2 es2) (fun t V=>∃va vn vc w2 vm1 vm2 es2,t = .agg #[.int .i64 idn,.int .i64 c,.int .i64 f,.int .i64 g,.slice va vn vc]∧SR W0 base C mb up (.slice a ds.length cap) X vm w2 es vm1∧RfS W0 base C mb up (.slice a ds.length cap) H ds es w2 vm1 T V (.slice va vn vc) vm2 es2) (rfl) ?_ ?_ ?_ ?_ ?_ ?_ ?_ ?_ ?_ ?_
 ·intro k o ho
  have hk:k<22:=(Array.getElem?_eq_some_iff.1 ho).1
  rcases (show k=0∨k=1∨k=2∨k=3∨k=4∨k=5∨k=6∨k=7∨k=8∨k=9∨k=10∨k=11∨k=12∨k=13∨k=14∨k=15∨k=16∨k=17∨k=18∨k=19∨k=20∨k=21 by omega) with rfl|rfl|rfl|rfl|rfl|rfl|rfl|rfl|rfl|rfl|rfl|rfl|rfl|rfl|rfl|rfl|rfl|rfl|rfl|rfl|rfl|rfl<;>(obtain rfl:=Option.some.inj ho;simp[Region.binds])
 ·intro o ho kk hkk
  obtain rfl:=Option.some.inj ho
  rcases (show kk=0∨kk=1∨kk=2∨kk=3∨kk=4∨kk=5∨kk=6∨kk=7∨kk=8∨kk=9∨kk=10∨kk=11∨kk=12∨kk=13∨kk=14∨kk=15∨kk=16∨kk=17∨kk=18∨kk=19∨kk=20 by omega) with rfl|rfl|rfl|rfl|rfl|rfl|rfl|rfl|rfl|rfl|rfl|rfl|rfl|rfl|rfl|rfl|rfl|rfl|rfl|rfl|rfl<;>simp[Region.binds]
 ·intro o ho
  obtain rfl:=Option.some.inj ho
  simp[Region.binds]
 ·intro o ho
  obtain rfl:=Option.some.inj ho
  simp[Region.binds]
 ·intro o ho
  obtain rfl:=Option.some.inj ho
  simp[Region.binds]
 ·intro k o u W hk hk1 hk2 hk3 hk4 ho hAB hF
  have ev:∀s,DO7 s=true→s<26→(ovr DO7 A0 u).tmps[s]?.getD undef=u s:=fun s h1 h2=>(getD_at _ _).symm.trans (eval_in h1 (by omega))
  have o0:(ovr DO7 A0 u).tmps[0]?.getD undef=_:=(getD_at _ _).symm.trans ((eval_out (D:=DO7) (a0:=A0) (u:=u) (s:=0) rfl (by omega)).trans e0)
  have o3:(ovr DO7 A0 u).tmps[3]?.getD undef=_:=(getD_at _ _).symm.trans ((eval_out (D:=DO7) (a0:=A0) (u:=u) (s:=3) rfl (by omega)).trans e3)
  have o4:(ovr DO7 A0 u).tmps[4]?.getD undef=_:=(getD_at _ _).symm.trans ((eval_out (D:=DO7) (a0:=A0) (u:=u) (s:=4) rfl (by omega)).trans e4)
  have hC:∃es3 vm3,SR W0 base C mb up (.slice a ds.length cap) X vm W es3 vm3:=by
   rcases hAB with e|⟨vm1,e⟩|⟨vm1,e⟩|⟨_,_,_,w2,vm1,vm2,es2,_,e1,e2⟩|⟨_,_,_,w2,vm1,vm2,es2,_,e1,e2⟩
   ·exact⟨_,_,by rw[e];exact HSR0.out⟩
   ·exact⟨_,_,e⟩
   ·exact⟨_,_,e⟩
   ·exact⟨_,_,e1.trans e2.sr⟩
   ·exact⟨_,_,e1.trans e2.sr⟩
  obtain⟨es3,vm3,hs3⟩:=hC
  obtain⟨⟨p0,p1,p2,p3,p4,p5,p6,p7⟩,_⟩:=pdb_cells (HKP.out W es3 vm3 hs3).1
  simp only at p0 p1 p2 p3 p4 p5 p6 p7
  clear hAB hs3
  rcases (show k=0∨k=1∨k=2∨k=3∨k=4∨k=5∨k=6∨k=7∨k=8∨k=9∨k=10∨k=11∨k=12∨k=13∨k=14∨k=15∨k=16∨k=17∨k=18∨k=19∨k=20 by omega) with rfl|rfl|rfl|rfl|rfl|rfl|rfl|rfl|rfl|rfl|rfl|rfl|rfl|rfl|rfl|rfl|rfl|rfl|rfl|rfl|rfl
  all_goals obtain rfl:=Option.some.inj ho
  ·refine onceV (v:=.pointer (some ⟨C,0,none⟩)) rfl rfl ?_ rfl
   simp only[execOp]
   go_simp
   try go_num
   try (rw[IntKind.wrap_i64];omega)
  ·refine onceV (v:=pdv ⟨(sn:Int),f,c,g,pb,mk,.slice (some ⟨b,off+j,none⟩) cn cn,(j:Int)⟩) rfl rfl ?_ rfl
   simp only[execOp]
   go_simp
   try go_num
   try (rw[IntKind.wrap_i64];omega)
  ·exact absurd rfl hk1
  ·refine onceV (v:=.pointer (some ⟨W9.heap.size,0,none⟩)) rfl rfl ?_ rfl
   simp only[execOp]
   go_simp
   try go_num
   try (rw[IntKind.wrap_i64];omega)
  ·have x3:=(ev 8 rfl (by decide)).trans (hF 3 (by decide) (by simp[Region.binds]))
   refine onceV (v:=.pointer (some ⟨W9.heap.size,0,none⟩)) rfl rfl ?_ rfl
   simp only[execOp]
   go_simp
   try go_num
   try (rw[IntKind.wrap_i64];omega)
  ·have x4:=(ev 9 rfl (by decide)).trans (hF 4 (by decide) (by simp[Region.binds]))
   refine onceV (v:=.pointer (some ⟨W9.heap.size,2,none⟩)) rfl rfl ?_ rfl
   simp only[execOp]
   go_simp
   try go_num
   try (rw[IntKind.wrap_i64];omega)
  ·have x5:=(ev 10 rfl (by decide)).trans (hF 5 (by decide) (by simp[Region.binds]))
   refine onceV (v:=.int .i64 c) rfl rfl ?_ rfl
   simp only[execOp]
   go_simp
   try go_num
   try (rw[IntKind.wrap_i64];omega)
  ·refine onceV (v:=.pointer (some ⟨W9.heap.size,0,none⟩)) rfl rfl ?_ rfl
   simp only[execOp]
   go_simp
   try go_num
   try (rw[IntKind.wrap_i64];omega)
  ·have x7:=(ev 12 rfl (by decide)).trans (hF 7 (by decide) (by simp[Region.binds]))
   refine onceV (v:=.pointer (some ⟨W9.heap.size,0,none⟩)) rfl rfl ?_ rfl
   simp only[execOp]
   go_simp
   try go_num
   try (rw[IntKind.wrap_i64];omega)
  ·have x8:=(ev 13 rfl (by decide)).trans (hF 8 (by decide) (by simp[Region.binds]))
   refine onceV (v:=.pointer (some ⟨W9.heap.size,1,none⟩)) rfl rfl ?_ rfl
   simp only[execOp]
   go_simp
   try go_num
   try (rw[IntKind.wrap_i64];omega)
  ·have x9:=(ev 14 rfl (by decide)).trans (hF 9 (by decide) (by simp[Region.binds]))
   refine onceV (v:=.int .i64 f) rfl rfl ?_ rfl
   simp only[execOp]
   go_simp
   try go_num
   try (rw[IntKind.wrap_i64];omega)
  ·refine onceV (v:=.pointer (some ⟨W9.heap.size,0,none⟩)) rfl rfl ?_ rfl
   simp only[execOp]
   go_simp
   try go_num
   try (rw[IntKind.wrap_i64];omega)
  ·have x11:=(ev 16 rfl (by decide)).trans (hF 11 (by decide) (by simp[Region.binds]))
   refine onceV (v:=.pointer (some ⟨W9.heap.size,0,none⟩)) rfl rfl ?_ rfl
   simp only[execOp]
   go_simp
   try go_num
   try (rw[IntKind.wrap_i64];omega)
  ·have x12:=(ev 17 rfl (by decide)).trans (hF 12 (by decide) (by simp[Region.binds]))
   refine onceV (v:=.pointer (some ⟨W9.heap.size,3,none⟩)) rfl rfl ?_ rfl
   simp only[execOp]
   go_simp
   try go_num
   try (rw[IntKind.wrap_i64];omega)
  ·have x13:=(ev 18 rfl (by decide)).trans (hF 13 (by decide) (by simp[Region.binds]))
   refine onceV (v:=.int .i64 g) rfl rfl ?_ rfl
   simp only[execOp]
   go_simp
   try go_num
   try (rw[IntKind.wrap_i64];omega)
  ·refine onceV (v:=.pointer (some ⟨C,0,none⟩)) rfl rfl ?_ rfl
   simp only[execOp]
   go_simp
   try go_num
   try (rw[IntKind.wrap_i64];omega)
  ·refine onceV (v:=.pointer (some ⟨W9.heap.size,0,none⟩)) rfl rfl ?_ rfl
   simp only[execOp]
   go_simp
   try go_num
   try (rw[IntKind.wrap_i64];omega)
  ·have x16:=(ev 21 rfl (by decide)).trans (hF 16 (by decide) (by simp[Region.binds]))
   refine onceV (v:=cv (sn:Int) f c g pb mk (.slice (some ⟨b,off+j,none⟩) cn cn)) rfl rfl ?_ rfl
   simp only[execOp]
   go_simp
   try go_num
   try (rw[IntKind.wrap_i64];omega)
  ·exact absurd rfl hk2
  ·exact absurd rfl hk3
  ·exact absurd rfl hk4
 ·intro o u W ho hA hF
  obtain rfl:=Option.some.inj ho
  have ev:∀s,DO7 s=true→s<26→(ovr DO7 A0 u).tmps[s]?.getD undef=u s:=fun s h1 h2=>(getD_at _ _).symm.trans (eval_in h1 (by omega))
  have o0:(ovr DO7 A0 u).tmps[0]?.getD undef=_:=(getD_at _ _).symm.trans ((eval_out (D:=DO7) (a0:=A0) (u:=u) (s:=0) rfl (by omega)).trans e0)
  have o3:(ovr DO7 A0 u).tmps[3]?.getD undef=_:=(getD_at _ _).symm.trans ((eval_out (D:=DO7) (a0:=A0) (u:=u) (s:=3) rfl (by omega)).trans e3)
  have o4:(ovr DO7 A0 u).tmps[4]?.getD undef=_:=(getD_at _ _).symm.trans ((eval_out (D:=DO7) (a0:=A0) (u:=u) (s:=4) rfl (by omega)).trans e4)
  have x0:=(ev 5 rfl (by decide)).trans (hF 0 (by decide) (by simp[Region.binds]))
  have x1:=(ev 6 rfl (by decide)).trans (hF 1 (by decide) (by simp[Region.binds]))
  subst hA
  refine threeC (f:=157) (args:=#[.pointer (some ⟨C,0,none⟩),pdv ⟨(sn:Int),f,c,g,pb,mk,.slice (some ⟨b,off+j,none⟩) cn cn,(j:Int)⟩]) rfl rfl ?_ ?_
  ·simp only[execOp]
   go_simp
  ·exact HID.mono fun e w' ⟨he,vm1,hs⟩=>⟨_,he,⟨vm1,hs.ahead ((Below.refl _ _).drew)⟩,rfl⟩
 ·intro o u W ho hA hF
  obtain rfl:=Option.some.inj ho
  have ev:∀s,DO7 s=true→s<26→(ovr DO7 A0 u).tmps[s]?.getD undef=u s:=fun s h1 h2=>(getD_at _ _).symm.trans (eval_in h1 (by omega))
  have o0:(ovr DO7 A0 u).tmps[0]?.getD undef=_:=(getD_at _ _).symm.trans ((eval_out (D:=DO7) (a0:=A0) (u:=u) (s:=0) rfl (by omega)).trans e0)
  have o3:(ovr DO7 A0 u).tmps[3]?.getD undef=_:=(getD_at _ _).symm.trans ((eval_out (D:=DO7) (a0:=A0) (u:=u) (s:=3) rfl (by omega)).trans e3)
  have o4:(ovr DO7 A0 u).tmps[4]?.getD undef=_:=(getD_at _ _).symm.trans ((eval_out (D:=DO7) (a0:=A0) (u:=u) (s:=4) rfl (by omega)).trans e4)
  have x17:=(ev 22 rfl (by decide)).trans (hF 17 (by decide) (by simp[Region.binds]))
  obtain⟨vm1,hs⟩:=hA
  refine threeC (f:=158) (args:=#[cv (sn:Int) f c g pb mk (.slice (some ⟨b,off+j,none⟩) cn cn)]) rfl rfl ?_ ?_
  ·simp only[execOp]
   go_simp
  ·exact (HSA.out W).mono fun e w' ⟨he,hb⟩=>⟨_,he,⟨vm1,hs.below hb⟩,rfl⟩
 ·intro o u W ho hA hF
  obtain rfl:=Option.some.inj ho
  have ev:∀s,DO7 s=true→s<26→(ovr DO7 A0 u).tmps[s]?.getD undef=u s:=fun s h1 h2=>(getD_at _ _).symm.trans (eval_in h1 (by omega))
  have o0:(ovr DO7 A0 u).tmps[0]?.getD undef=_:=(getD_at _ _).symm.trans ((eval_out (D:=DO7) (a0:=A0) (u:=u) (s:=0) rfl (by omega)).trans e0)
  have o3:(ovr DO7 A0 u).tmps[3]?.getD undef=_:=(getD_at _ _).symm.trans ((eval_out (D:=DO7) (a0:=A0) (u:=u) (s:=3) rfl (by omega)).trans e3)
  have o4:(ovr DO7 A0 u).tmps[4]?.getD undef=_:=(getD_at _ _).symm.trans ((eval_out (D:=DO7) (a0:=A0) (u:=u) (s:=4) rfl (by omega)).trans e4)
  have x15:=(ev 20 rfl (by decide)).trans (hF 15 (by decide) (by simp[Region.binds]))
  have x18:=(ev 23 rfl (by decide)).trans (hF 18 (by decide) (by simp[Region.binds]))
  obtain⟨vm1,hs⟩:=hA
  refine threeC (f:=135) (args:=#[.pointer (some ⟨C,0,none⟩),.slice pa sn sn]) rfl rfl ?_ ?_
  ·simp only[execOp]
   go_simp
  ·exact (HRS.out W vm1 hs.sh).mono fun e w' ⟨va,vn,vc,es2,vm2,he,hr⟩=>⟨_,he,⟨va,vn,vc,W,vm1,vm2,es2,rfl,hs,hr⟩,trivial⟩
 ·intro o u W ho hA hF
  obtain rfl:=Option.some.inj ho
  have ev:∀s,DO7 s=true→s<26→(ovr DO7 A0 u).tmps[s]?.getD undef=u s:=fun s h1 h2=>(getD_at _ _).symm.trans (eval_in h1 (by omega))
  have o0:(ovr DO7 A0 u).tmps[0]?.getD undef=_:=(getD_at _ _).symm.trans ((eval_out (D:=DO7) (a0:=A0) (u:=u) (s:=0) rfl (by omega)).trans e0)
  have o3:(ovr DO7 A0 u).tmps[3]?.getD undef=_:=(getD_at _ _).symm.trans ((eval_out (D:=DO7) (a0:=A0) (u:=u) (s:=3) rfl (by omega)).trans e3)
  have o4:(ovr DO7 A0 u).tmps[4]?.getD undef=_:=(getD_at _ _).symm.trans ((eval_out (D:=DO7) (a0:=A0) (u:=u) (s:=4) rfl (by omega)).trans e4)
  have x2:=(ev 7 rfl (by decide)).trans (hF 2 (by decide) (by simp[Region.binds]))
  have x6:=(ev 11 rfl (by decide)).trans (hF 6 (by decide) (by simp[Region.binds]))
  have x10:=(ev 15 rfl (by decide)).trans (hF 10 (by decide) (by simp[Region.binds]))
  have x14:=(ev 19 rfl (by decide)).trans (hF 14 (by decide) (by simp[Region.binds]))
  obtain⟨va,vn,vc,w2,vm1,vm2,es2,q0,q1,q2⟩:=hA
  have x19:=(ev 24 rfl (by decide)).trans q0
  refine threeW (v:=.agg #[.int .i64 idn,.int .i64 c,.int .i64 f,.int .i64 g,.slice va vn vc]) (W':=W) rfl rfl ?_ ⟨va,vn,vc,w2,vm1,vm2,es2,rfl,q1,q2⟩ trivial
  simp only[execOp]
  go_simp
 ·intro o u W ho hA hF
  obtain rfl:=Option.some.inj ho
  have ev:∀s,DO7 s=true→s<26→(ovr DO7 A0 u).tmps[s]?.getD undef=u s:=fun s h1 h2=>(getD_at _ _).symm.trans (eval_in h1 (by omega))
  have o0:(ovr DO7 A0 u).tmps[0]?.getD undef=_:=(getD_at _ _).symm.trans ((eval_out (D:=DO7) (a0:=A0) (u:=u) (s:=0) rfl (by omega)).trans e0)
  have o3:(ovr DO7 A0 u).tmps[3]?.getD undef=_:=(getD_at _ _).symm.trans ((eval_out (D:=DO7) (a0:=A0) (u:=u) (s:=3) rfl (by omega)).trans e3)
  have o4:(ovr DO7 A0 u).tmps[4]?.getD undef=_:=(getD_at _ _).symm.trans ((eval_out (D:=DO7) (a0:=A0) (u:=u) (s:=4) rfl (by omega)).trans e4)
  obtain⟨va,vn,vc,w2,vm1,vm2,es2,q0,q1,q2⟩:=hA
  have x20:=(ev 25 rfl (by decide)).trans q0
  obtain⟨kP,kO⟩:=HKP.out W es2 vm2 (q1.trans q2.sr)
  obtain⟨r0,r1,r2,r3,r4,rf⟩:=gr.five_cells kO
  have rf0:=rf 0
  have rf1:=rf 1
  have rf2:=rf 2
  have rf3:=rf 3
  have rf4:=rf 4
  have HKO:Hid _:=kO
  have HQ1:Hid _:=q1
  have HQ2:Hid _:=q2
  clear rf kP kO hF q1 q2
  refine plainS (W':=((((W.setCell ⟨W9.heap.size+1,0,none⟩ (.int .i64 idn)).setCell ⟨W9.heap.size+1,1,none⟩ (.int .i64 c)).setCell ⟨W9.heap.size+1,2,none⟩ (.int .i64 f)).setCell ⟨W9.heap.size+1,3,none⟩ (.int .i64 g)).setCell ⟨W9.heap.size+1,4,none⟩ (.slice va vn vc)) ?_ ?_ ?_
  ·exact rfl
  ·simp only[execOp]
   go_simp
  ·subst hA0
   clear ev o0 o3 o4 x20 e0 e3 e4 sz
   simp[ovr,DO7,List.range,List.range.loop]
   go_wp2
   exact bodyPost_ret (res_ob rfl rfl (gr.five_sets HKO.out _ _ _ _ _)) rfl (HEND.out W va vn vc w2 vm1 vm2 es2 HQ1.out HQ2.out)
end Go.Proofs.YtkiognecebgaiaaGreatDoor.hp
