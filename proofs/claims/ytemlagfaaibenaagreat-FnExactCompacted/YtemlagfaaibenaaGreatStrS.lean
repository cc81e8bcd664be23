/-
  Chapter 10 as the specification has it: a heap of the call's own made straight.
  Made from the template StrS (mkstrs.py).
-/
import Derived.Test.YtemlagfaaibenaaGreatM12
namespace Go.Proofs.YtemlagfaaibenaaGreat.hp
open Go.RowKit rows heads words walks region
set_option maxRecDepth 100000
set_option linter.unusedVariables false
set_option linter.unusedSimpArgs false
def dS8 (k:Nat):Nat:=38+k
theorem dS8_inj:∀k,k<29→∀j,j<29→dS8 j=dS8 k→j=k:=fun k _ j _ e=>by unfold dS8 at e;omega
def DS8 (s:Nat):Bool:=decide (38≤s)&&decide (s≤66)
def FS8 (P g n c lb lo ln lc i0 j0 k0:Nat) (hv0:Value) (y z:Int) (k:Nat) (t:Value):Prop:=
 match k with
 |0=>t = .pointer (some ⟨P,0,none⟩)
 |1=>t = .pointer (some ⟨P,0,none⟩)
 |2=>t = .pointer (some ⟨P,2,none⟩)
 |3=>t = .slice (some ⟨g,0,none⟩) n c
 |4=>t = .slice (some ⟨lb,lo,none⟩) ln lc
 |5=>t = .int .i64 (i0:Int)
 |6=>t = .pointer (some ⟨lb,lo+i0,none⟩)
 |7=>t = .int .i64 (j0:Int)
 |8=>t = .int .i64 ((j0:Int)+1)
 |9=>t = .int .i64 (k0:Int)
 |10=>t = .int .i64 ((j0:Int)+1+(k0:Int))
 |11=>t = .pointer (some ⟨P,0,none⟩)
 |12=>t = .pointer (some ⟨P,0,none⟩)
 |13=>t=hv0
 |14=>t = .pointer (some ⟨P,0,none⟩)
 |15=>t = .pointer (some ⟨P,0,none⟩)
 |16=>t = .pointer (some ⟨P,2,none⟩)
 |17=>t = .slice (some ⟨g,0,none⟩) n c
 |18=>t = .slice (some ⟨lb,lo,none⟩) ln lc
 |19=>t = .int .i64 (i0:Int)
 |20=>t = .pointer (some ⟨lb,lo+i0,none⟩)
 |21=>t = .int .i64 (j0:Int)
 |22=>t = .int .i64 ((j0:Int)+1)
 |23=>t = .int .i64 (k0:Int)
 |24=>t = .int .i64 ((j0:Int)+1+(k0:Int))
 |25=>t = .pointer (some ⟨g,j0+1+k0,none⟩)
 |26=>t = .int .i64 y
 |27=>t = .int .i64 z
 |28=>t = .pointer (some ⟨g,j0+1+k0,none⟩)
 |_=>False
def dS12 (k:Nat):Nat:=71+k
theorem dS12_inj:∀k,k<17→∀j,j<17→dS12 j=dS12 k→j=k:=fun k _ j _ e=>by unfold dS12 at e;omega
def DS12 (s:Nat):Bool:=decide (71≤s)&&decide (s≤87)
def FS12 (P g n c k0:Nat) (hv0:Value) (y z:Int) (k:Nat) (t:Value):Prop:=
 match k with
 |0=>t = .pointer (some ⟨P,0,none⟩)
 |1=>t = .pointer (some ⟨P,0,none⟩)
 |2=>t = .pointer (some ⟨P,5,none⟩)
 |3=>t = .slice (some ⟨g,0,none⟩) n c
 |4=>t = .int .i64 (k0:Int)
 |5=>t = .pointer (some ⟨P,0,none⟩)
 |6=>t = .pointer (some ⟨P,0,none⟩)
 |7=>t=hv0
 |8=>t = .pointer (some ⟨P,0,none⟩)
 |9=>t = .pointer (some ⟨P,0,none⟩)
 |10=>t = .pointer (some ⟨P,5,none⟩)
 |11=>t = .slice (some ⟨g,0,none⟩) n c
 |12=>t = .int .i64 (k0:Int)
 |13=>t = .pointer (some ⟨g,k0,none⟩)
 |14=>t = .int .i64 y
 |15=>t = .int .i64 z
 |16=>t = .pointer (some ⟨g,k0,none⟩)
 |_=>False
def dS16 (k:Nat):Nat:=97+k
theorem dS16_inj:∀k,k<17→∀j,j<17→dS16 j=dS16 k→j=k:=fun k _ j _ e=>by unfold dS16 at e;omega
def DS16 (s:Nat):Bool:=decide (97≤s)&&decide (s≤113)
def FS16 (P g n c k0:Nat) (hv0:Value) (y z:Int) (k:Nat) (t:Value):Prop:=
 match k with
 |0=>t = .pointer (some ⟨P,0,none⟩)
 |1=>t = .pointer (some ⟨P,0,none⟩)
 |2=>t = .pointer (some ⟨P,6,none⟩)
 |3=>t = .slice (some ⟨g,0,none⟩) n c
 |4=>t = .int .i64 (k0:Int)
 |5=>t = .pointer (some ⟨P,0,none⟩)
 |6=>t = .pointer (some ⟨P,0,none⟩)
 |7=>t=hv0
 |8=>t = .pointer (some ⟨P,0,none⟩)
 |9=>t = .pointer (some ⟨P,0,none⟩)
 |10=>t = .pointer (some ⟨P,6,none⟩)
 |11=>t = .slice (some ⟨g,0,none⟩) n c
 |12=>t = .int .i64 (k0:Int)
 |13=>t = .pointer (some ⟨g,k0,none⟩)
 |14=>t = .int .i64 y
 |15=>t = .int .i64 z
 |16=>t = .pointer (some ⟨g,k0,none⟩)
 |_=>False
theorem SS.newList {W:World} {w:World} {P base gr go gm cr co cm nr no nm:Nat} {vs vl vl':Value} {H:Hp} {os os' xs rs ms:List Int} (h:SS w W P base gr go gm cr co cm nr no nm vs vl H os xs rs ms) (hl:rows.Own W w.heap.size vl' os'):SS w W P base gr go gm cr co cm nr no nm vs vl' H os' xs rs ms:=
 ⟨h.nine,h.row,h.roots,h.mour,h.seen,hl,h.ch,h.lr,h.lo,h.lm⟩
set_option maxHeartbeats 32000000 in
theorem l10Straighten_any {w:World} {P base gr go gm cr co cm:Nat} {vs:Value} {H:Hp} {ps:List Int} (RR:Rt H ps) (d:Dst w P base gr go gm vs)
    (hS:SS w w P base gr go gm cr co cm H.row.length H.roots.length H.mourned.length vs (.slice none 0 0) H [] H.row H.roots H.mourned) (hbs:base≤w.heap.size) :
    Calls Tryz.prog 90 #[.pointer (some ⟨P,0,none⟩)] w fun e w'=>∃u,e = .returned (.tuple #[])∧Nine w' P 27 (.int .i64 H.half) (.int .i64 H.old) (.slice (some ⟨gr,0,none⟩) H.row.length cr) (.int .i64 H.side) (.int .i64 H.top) (.slice (some ⟨go,0,none⟩) H.roots.length co) (.slice (some ⟨gm,0,none⟩) H.mourned.length cm) u (.int .i64 H.seed)∧OwnH w' base (.slice (some ⟨gr,0,none⟩) H.row.length cr) (.slice (some ⟨go,0,none⟩) H.roots.length co) (.slice (some ⟨gm,0,none⟩) H.mourned.length cm) u (strF H ps)∧Ch [P,gr,go,gm] w w':=by
 obtain⟨sa,sn,sc,rfl⟩:=ints_slice (own_ints hS.seen)
 have hA:=apart_of RR.some'
 obtain⟨os,hos⟩:∃os,objL H ps=os:=⟨_,rfl⟩
 have HOS:Hid _:=hos
 have HMO:Hid (∀p ∈ os,p ∈ objL H ps):=fun p hp=>by rw[hos];exact hp
 have HRis:Hid (Rising os):=by show Rising os;rw[←hos];exact (places_rising RR.some').filter _
 have hol:os.length≤1000:=by rw[←hos];exact Nat.le_trans (objL_len _ _) (by have:=(places_plc RR.some').2;omega)
 have OB:=l9Objects_any (show HpAt w _ _ _ _ H from hS.hp) RR.some'
 rw[hos]at OB
 have HRR:Hid _:=RR
 have HAp:Hid _:=hA
 have HDS:Hid _:=d
 have HS0:Hid _:=hS
 have N:=(places_facts RR.some').1
 have hr6:H.roots.length=6:=N.roots
 have hm40:H.mourned.length≤40:=N.mourned
 have hrl:=RR.len
 have HR6:Hid _:=hr6
 obtain⟨⟨z0,z1,z2,z3,z4⟩,⟨z5,z6,z7,z8⟩,_⟩:=nine_cells hS.nine
 have hPl:=d.lt
 clear RR d hS hA hos N hr6
 go_enter Tryz.func90,Tryz.ntmps90
 go_wp2_with (go_at_call 55;refine OB.mono ?_;clear OB z0 z1 z2 z3 z4 z5 z6 z7 z8;rintro e w1 ⟨vl,rfl,O1,b1⟩;have HS1:Hid (SS w w1 P base gr go gm cr co cm H.row.length H.roots.length H.mourned.length (.slice sa sn sc) vl H os H.row H.roots H.mourned):=(HS0.out.below b1).newList O1;obtain⟨la,lc,ela,_,_,_,_⟩:=own_ints O1;subst ela;clear O1 b1 HS0)
 go_loopw [3,4,5] (fun q _ _ wr=>∃i:Nat,i≤os.length∧q = .int .i64 (i:Int)∧SS w wr P base gr go gm cr co cm H.row.length H.roots.length H.mourned.length (.slice sa sn sc) (.slice la os.length lc) H os (strRow H (os.take i)) H.roots H.mourned) (fun q _ _ _=>os.length-(intOf q).toNat)
 case atStart=>exact⟨0,Nat.zero_le _,rfl,HS1.out⟩
 case round=>
  obtain⟨i,hi,rfl,hS⟩:=hrel
  clear HS1
  have HS:Hid _:=hS
  by_cases hlt:i<os.length
  ·have hlt':(i:Int)<(os.length:Int):=by omega
   have hm:os.getD i 0 ∈ os:=by rw[List.getD_eq_getElem?_getD,List.getElem?_eq_getElem hlt];exact List.getElem_mem hlt
   obtain⟨hpp,h6⟩:=objL_mem (HMO.out _ hm)
   obtain⟨j,hj,hjl,hch⟩:=HRR.out.plc _ hpp
   obtain⟨lb,lo,ev,hlb,x0⟩:=ints_cell (own_ints hS.list) hlt
   subst ev
   rw[hj]at x0 hpp h6
   rw[Int.toNat_natCast]at h6
   have HLT:Hid (∀q,j≤q→(strRow H (os.take i)).getD q 0=H.row.getD q 0):=fun q hq=>row_later HAp.out HMO.out HRis.out hlt q (by rw[hj,Int.toNat_natCast];exact hq)
   have HNX:Hid (strRow H (os.take (i+1))=strAt H (strRow H (os.take i)) j):=by show _=_;rw[strRow_next hlt,hj]
   have HDf:Hid (Dif H os (strRow H (os.take i))):=dif_row HAp.out HMO.out i hi
   have HJM:Hid ((j:Int) ∈ os):=by rw[←hj];exact hm
   have HSE:Hid _:=slots_end hch h6
   have HSL:Hid _:=slots_len (H:=H) hch
   have HSG:Hid (∀k,k<(cnS (H.row.getD j 0)).toNat→(slotsOf H (j:Int)).getD k 0=H.row.getD (j+1+k) 0):=fun k hk=>slots_getD hk
   have HWD:Hid (∀k,k<(slotsOf H (j:Int)).length→wordIn H ps ((slotsOf H (j:Int)).getD k 0)=true):=fun k hk=>by
    have hs:=HRR.out.slots
    unfold slotsOk at hs
    rw[List.all_eq_true]at hs
    have h1:=hs _ hpp
    rw[List.all_eq_true]at h1
    refine h1 _ ?_
    rw[List.getD_eq_getElem?_getD,List.getElem?_eq_getElem hk];exact List.getElem_mem hk
   have HNT:Hid (ntH H (j:Int)=(uF (H.row.getD j 0)==7)):=by show _=_;unfold ntH;rw[Int.toNat_natCast]
   have hCN:uF (H.row.getD j 0)≠7→cnS (H.row.getD j 0)=uS (H.row.getD j 0):=fun e=>by unfold cnS;rw[if_neg e,if_neg h6]
   have HCN:Hid _:=hCN
   have hcs:=(chunk_slots hch).1
   obtain⟨xs,hxs⟩:∃xs,strRow H (os.take i)=xs:=⟨_,rfl⟩
   rw[hxs]at HS HNX HDf
   simp only[hxs]at HLT
   obtain⟨⟨z0,z1,z2,z3,z4⟩,⟨z5,z6,z7,z8⟩,_⟩:=nine_cells HS.out.nine
   have hxl:xs.length=H.row.length:=HS.out.lr
   have HXL:Hid _:=hxl
   have BA:=(Below.refl wr.heap.size wr).alloc (Nat.le_refl _) (hb 0 0 0 0 false false)
   have z2':=(BA.cell (p:=⟨P,2,none⟩) (World.block_lt_of_cell? _ _ z2)).trans z2
   have x0':=(BA.cell (p:=⟨lb,lo+i,none⟩) hlb).trans x0
   have HL4:Hid (∀W,Below wr.heap.size wr W→Calls Tryz.prog 46 #[(.slice (some ⟨gr,0,none⟩) H.row.length cr),.int .i64 (j:Int)] W fun e w'=>e = .returned (hv (uS (H.row.getD j 0)) (uF (H.row.getD j 0)) (uC (H.row.getD j 0)) (uH (H.row.getD j 0)) (uP (H.row.getD j 0)) (uM (H.row.getD j 0)))∧Below W.heap.size W w'):=fun W hW=>by
    have S':=HS.out.below hW
    have L:=l4Head_any (show IntsAt W _ xs from S'.hp.1) j (by rw[HXL.out];exact hjl)
    rw[S'.lr]at L
    unfold hw at L
    rw[HLT.out j (Nat.le_refl _)]at L
    exact L
   have HA:Hid (∀W,Below (wr.alloc (hb 0 0 0 0 false false)).heap.size (wr.alloc (hb 0 0 0 0 false false)) W→HeadAt W wr.heap.size 0 0 0 0 false false):=fun W hW=>headAt_below (headAt_new wr 0 0 0 0 false false) hW
   have HBA:Hid _:=BA
   have hgw:gr<wr.heap.size:=by have:=HS.out.ch.size;have:=HDS.out.lt.1;omega
   clear BA hS hxs hj hpp hm hch
   generalize hF:uF (H.row.getD j 0)=f at *
   generalize hS':uS (H.row.getD j 0)=s at *
   generalize uC (H.row.getD j 0)=c at *
   generalize uH (H.row.getD j 0)=g at *
   generalize uP (H.row.getD j 0)=p at *
   generalize uM (H.row.getD j 0)=m at *
   clear hF hS'
   go_upto_region 4 with fail
   go_cut [3,4] from 12 to 66 (fun i' q wy=>i' = .int .i64 (i:Int)∧∃B,q = .pointer (some ⟨B,0,none⟩)∧HeadAt wy B s f c g p m∧wr.heap.size≤B∧Below wr.heap.size wr wy)
   case first=>
    go_region_law (first
     |(go_simp;go_at_call 46;refine (HL4.out _ HBA.out.drew).mono ?_;clear HL4;rintro e w6 ⟨rfl,b6⟩;have b7:Below (wr.alloc (hb 0 0 0 0 false false)).heap.size (wr.alloc (hb 0 0 0 0 false false)) w6:=⟨b6.os,b6.tape,b6.output,b6.size,b6.block⟩;have TA:=HA.out w6 b7;obtain⟨t0',t1',t2',t3',t4',t5',tf⟩:=headAt_cells TA;have f0:=tf 0;have f1:=tf 1;have f2:=tf 2;have f3:=tf 3;have f4:=tf 4;have f5:=tf 5;have HEnd:Hid (HeadAt (((((((w6.setCell ⟨wr.heap.size,0,none⟩ (.int .i64 s)).setCell ⟨wr.heap.size,1,none⟩ (.int .i64 f)).setCell ⟨wr.heap.size,2,none⟩ (.int .i64 c)).setCell ⟨wr.heap.size,3,none⟩ (.int .i64 g)).setCell ⟨wr.heap.size,4,none⟩ (.bool p)).setCell ⟨wr.heap.size,5,none⟩ (.bool m))) wr.heap.size s f c g p m∧wr.heap.size≤wr.heap.size∧Below wr.heap.size wr (((((((w6.setCell ⟨wr.heap.size,0,none⟩ (.int .i64 s)).setCell ⟨wr.heap.size,1,none⟩ (.int .i64 f)).setCell ⟨wr.heap.size,2,none⟩ (.int .i64 c)).setCell ⟨wr.heap.size,3,none⟩ (.int .i64 g)).setCell ⟨wr.heap.size,4,none⟩ (.bool p)).setCell ⟨wr.heap.size,5,none⟩ (.bool m)))):=⟨six_set TA s f c g p m,Nat.le_refl _,six_below (HBA.out.trans (b7.mono HBA.out.size)) (Nat.le_refl _) s f c g p m⟩;clear b6 b7 TA tf)
     |(go_simp;go_at_call 46;refine (HL4.out _ (Below.refl _ _).drew).mono ?_;clear HL4;rintro e w6 ⟨rfl,b6⟩;have b7:Below wr.heap.size wr w6:=⟨b6.os,b6.tape,b6.output,b6.size,b6.block⟩;have HEnd:Hid (HeadAt (w6.alloc (hb s f c g p m)) w6.heap.size s f c g p m∧wr.heap.size≤w6.heap.size∧Below wr.heap.size wr (w6.alloc (hb s f c g p m))):=⟨headAt_new w6 s f c g p m,b7.size,b7.alloc b7.size (hb s f c g p m)⟩;clear b6 b7))
    all_goals (go_wp2_with fail)
    all_goals go_meet
    all_goals exact⟨rfl,_,rfl,HEnd.out.1,HEnd.out.2.1,HEnd.out.2.2⟩
   obtain⟨rfl,B,rfl,hHd,hBw,hBy⟩:=hcut
   have HHd:Hid _:=hHd
   have HSc:Hid _:=HS.out.below hBy
   have x0c:=(hBy.cell (p:=⟨lb,lo+i,none⟩) hlb).trans x0
   have hlbc:lb<wc.heap.size:=Nat.lt_of_lt_of_le hlb hBy.size
   clear z0 z1 z2 z3 z4 z5 z6 z7 z8 z2' x0 x0' HL4 HA HBA hHd hBy HS
   go_wp2_with fail
   by_cases h7:f=7
   ·subst h7
    have HEQ:Hid (strRow H (os.take (i+1))=xs):=by show _=_;rw[HNX.out];unfold strAt;rw[if_pos (by rw[HNT.out];rfl)]
    go_loopw [5] (fun q wi=>q = .int .i64 0∧wi=wc) (fun _ _=>0)
    case atStart=>exact⟨rfl,rfl⟩
    case round=>
     obtain⟨rfl,rfl⟩:=hrel
     obtain⟨t0,t1,t2,t3,t4,t5,_⟩:=headAt_cells HHd.out
     by_cases hs0:(0:Int)<s
     ·go_wp2
      exact⟨⟨i+1,by omega,by go_num,by rw[HEQ.out];exact HSc.out⟩,by simp[intOf];omega⟩
     ·go_wp2
      exact⟨⟨i+1,by omega,by go_num,by rw[HEQ.out];exact HSc.out⟩,by simp[intOf];omega⟩
   ·have h7':(f != 7)=true:=by simp[h7]
    have hcn:=HCN.out h7
    obtain⟨cn,hcs'⟩:∃cn:Nat,s=(cn:Int):=⟨s.toNat,by rw[←hcn];omega⟩
    have HLN:Hid ((slotsOf H (j:Int)).length=cn):=by show _=_;rw[HSL.out,hcn,hcs',Int.toNat_natCast]
    have HGK:Hid (∀k,k<cn→(slotsOf H (j:Int)).getD k 0=H.row.getD (j+1+k) 0):=fun k hk=>HSG.out k (by rw[hcn,hcs',Int.toNat_natCast];exact hk)
    subst hcs'
    have hend:j+1+cn≤H.row.length:=by have h1:=HSE.out;rw[HLN.out]at h1;have:=chunk_bounds H.row j;omega
    have HEQ:Hid (strRow H (os.take (i+1))=putR xs (j+1) ((slotsOf H (j:Int)).map (fol H))):=by show _=_;rw[HNX.out];unfold strAt;rw[if_neg (by rw[HNT.out];simpa using h7),Int.toNat_natCast]
    have hnt:ntH H (j:Int)=false:=by rw[HNT.out];simpa using h7
    have HNTF:Hid _:=hnt
    clear hnt hcn hcs HCN HSG HNX HNT HSL HSE hCN
    go_loopw [5] (fun q wi=>∃k:Nat,k≤cn∧q = .int .i64 (k:Int)∧SS w wi P base gr go gm cr co cm H.row.length H.roots.length H.mourned.length (.slice sa sn sc) (.slice (some ⟨lb,lo,none⟩) os.length lc) H os (putR xs (j+1) (((slotsOf H (j:Int)).take k).map (fol H))) H.roots H.mourned∧HeadAt wi B (cn:Int) f c g p m∧wi.cell? ⟨lb,lo+i,none⟩=some (.int .i64 (j:Int))) (fun q _=>cn-(intOf q).toNat)
    case atStart=>exact⟨0,Nat.zero_le _,rfl,by rw[List.take_zero,List.map_nil,putR_nil];exact HSc.out,HHd.out,x0c⟩
    case round=>
     obtain⟨k,hk,rfl,hS,hHd,x0⟩:=hrel
     clear HSc HHd x0c
     obtain⟨t0,t1,t2,t3,t4,t5,_⟩:=headAt_cells hHd
     have HS:Hid _:=hS
     have HHd:Hid _:=hHd
     by_cases hkl:k<cn
     ·have hkl':(k:Int)<(cn:Int):=by omega
      have hyl:=HGK.out k hkl
      obtain⟨y,hy⟩:∃y,H.row.getD (j+1+k) 0=y:=⟨_,rfl⟩
      have hln:=HLN.out
      have hxl2:=HXL.out
      have htl:(((slotsOf H (j:Int)).take k).map (fol H)).length=k:=by rw[List.length_map,List.length_take,hln];omega
      have hcur:(putR xs (j+1) (((slotsOf H (j:Int)).take k).map (fol H))).getD (j+1+k) 0=y:=by
       rw[putR_get (by rw[htl,hxl2];omega),if_neg (by rw[htl];omega),HLT.out _ (by omega),hy]
      have hwy:wordIn H ps y=true:=by rw[←hy,←hyl];exact HWD.out k (by rw[hln];exact hkl)
      have hql:j+1+k<(putR xs (j+1) (((slotsOf H (j:Int)).take k).map (fol H))).length:=by rw[hS.lr];omega
      have HST:Hid (∀W,SS w W P base gr go gm cr co cm H.row.length H.roots.length H.mourned.length (.slice sa sn sc) (.slice (some ⟨lb,lo,none⟩) os.length lc) H os (putR xs (j+1) (((slotsOf H (j:Int)).take k).map (fol H))) H.roots H.mourned→SS w (W.setCell ⟨gr,j+1+k,none⟩ (.int .i64 (fol H y))) P base gr go gm cr co cm H.row.length H.roots.length H.mourned.length (.slice sa sn sc) (.slice (some ⟨lb,lo,none⟩) os.length lc) H os (putR xs (j+1) (((slotsOf H (j:Int)).take (k+1)).map (fol H))) H.roots H.mourned):=fun W h=>by
       have h2:=h.setRow HDS.out (j+1+k) (fol H y)
       have e:=putR_snoc (xs:=xs) (k:=j+1) (ys:=((slotsOf H (j:Int)).take k).map (fol H)) (y:=fol H y) (by rw[htl,hxl2];omega)
       rw[htl]at e
       have e2:((slotsOf H (j:Int)).take k).map (fol H)++[fol H y]=((slotsOf H (j:Int)).take (k+1)).map (fol H):=by
        rw[List.take_add_one,List.map_append,List.getElem?_eq_getElem (by rw[hln];exact hkl)]
        rw[List.getD_eq_getElem?_getD,List.getElem?_eq_getElem (by rw[hln];exact hkl)]at hyl
        simp only[Option.getD_some]at hyl
        rw[hyl,hy];rfl
       rw[e,e2]at h2
       exact h2
      have HFOL:Hid (∀W,Below wr.heap.size wr W→Calls Tryz.prog 45 #[hpv H (.slice (some ⟨gr,0,none⟩) H.row.length cr) (.slice (some ⟨go,0,none⟩) H.roots.length co) (.slice (some ⟨gm,0,none⟩) H.mourned.length cm) (.slice sa sn sc),.int .i64 y] W fun e w'=>e = .returned (.int .i64 (fol H y))∧Below W.heap.size W w'):=fun W hW=>by
       have S':=HS.out.below hW
       have hD:Dif H os (putR xs (j+1) (((slotsOf H (j:Int)).take k).map (fol H))):=dif_put (p:=(j:Int)) HDf.out HJM.out HNTF.out (by rw[htl,hln];omega) (by rw[Int.toNat_natCast,hln];exact hend)
       have L:=l10Follow_sim S'.hp HRR.out (sim_of HAp.out HMO.out (H':= { H with row:=(putR xs (j+1) (((slotsOf H (j:Int)).take k).map (fol H))),roots:=H.roots,mourned:=H.mourned }) hD) y hwy
       rw[S'.lr,S'.lo,S'.lm]at L
       exact L
      have HRC:Hid (∀W,Below wr.heap.size wr W→W.cell? ⟨gr,j+1+k,none⟩=some (.int .i64 y)∧W.frozen? ⟨gr,j+1+k,none⟩=false):=fun W hW=>by
       have:=(HS.out.below hW).rowCell hql
       rwa [hcur]at this
      have hlw:lb<wr.heap.size∧lb≠gr:=by
       obtain⟨q1,q2⟩:=own_lt HS.out.list lb rfl
       have:=HDS.out.lt.1
       exact⟨q2,by omega⟩
      have hBg:B≠gr:=by omega
      have i1:((j:Int)+1+(k:Int)).toNat=j+1+k:=by omega
      have i2:(0:Int)≤(j:Int)+1+(k:Int):=by omega
      have i3:(j:Int)+1+(k:Int)<(H.row.length:Int):=by omega
      clear hyl hy hln hxl2 htl hcur hwy hql hS hHd
      generalize fol H y=z at *
      go_upto_region 8 with fail
      clear t0 t1 t2 t3 t4 t5
      generalize hA0:(Act.mk _ [])=A0
      have e0:A0.tmps.getD 0 undef = .pointer (some ⟨P,0,none⟩):=by rw[←hA0];rfl
      have e2:A0.tmps.getD 2 undef = .slice (some ⟨lb,lo,none⟩) os.length lc:=by rw[←hA0];rfl
      have e3:A0.tmps.getD 3 undef = .int .i64 (i:Int):=by rw[←hA0];rfl
      have e5:A0.tmps.getD 5 undef = .int .i64 (k:Int):=by rw[←hA0];rfl
      have sz:A0.tmps.size=121:=by rw[←hA0];rfl
      refine wp_region_plain (by kernel_rfl) DS8 (by simp) ?_ 29 rfl dS8 dS8_inj (fun kk tt _=>FS8 P gr H.row.length cr lb lo os.length lc i j k (hpv H (.slice (some ⟨gr,0,none⟩) H.row.length cr) (.slice (some ⟨go,0,none⟩) H.roots.length co) (.slice (some ⟨gm,0,none⟩) H.mourned.length cm) (.slice sa sn sc)) y z kk tt) (fun _ _ _ _ _ h=>h) ?_ ?_ ?_
      ·intro k o ho
       have hk:k<30:=(Array.getElem?_eq_some_iff.1 ho).1
       rcases (show k=0∨k=1∨k=2∨k=3∨k=4∨k=5∨k=6∨k=7∨k=8∨k=9∨k=10∨k=11∨k=12∨k=13∨k=14∨k=15∨k=16∨k=17∨k=18∨k=19∨k=20∨k=21∨k=22∨k=23∨k=24∨k=25∨k=26∨k=27∨k=28∨k=29 by omega) with rfl|rfl|rfl|rfl|rfl|rfl|rfl|rfl|rfl|rfl|rfl|rfl|rfl|rfl|rfl|rfl|rfl|rfl|rfl|rfl|rfl|rfl|rfl|rfl|rfl|rfl|rfl|rfl|rfl|rfl<;>(obtain rfl:=Option.some.inj ho;simp)
      ·intro o ho j hj
       obtain rfl:=Option.some.inj ho
       rcases (show j=0∨j=1∨j=2∨j=3∨j=4∨j=5∨j=6∨j=7∨j=8∨j=9∨j=10∨j=11∨j=12∨j=13∨j=14∨j=15∨j=16∨j=17∨j=18∨j=19∨j=20∨j=21∨j=22∨j=23∨j=24∨j=25∨j=26∨j=27∨j=28 by omega) with rfl|rfl|rfl|rfl|rfl|rfl|rfl|rfl|rfl|rfl|rfl|rfl|rfl|rfl|rfl|rfl|rfl|rfl|rfl|rfl|rfl|rfl|rfl|rfl|rfl|rfl|rfl|rfl|rfl<;>simp[Region.binds]
      ·intro k o u W hk ho hB hF
       have ev:∀s,DS8 s=true→s<67→(ovr DS8 A0 u).tmps[s]?.getD undef=u s:=fun s h1 h2=>(getD_at _ _).symm.trans (eval_in h1 (by omega))
       have o0:(ovr DS8 A0 u).tmps[0]?.getD undef=_:=(getD_at _ _).symm.trans ((eval_out (D:=DS8) (a0:=A0) (u:=u) (s:=0) rfl (by omega)).trans e0)
       have o2:(ovr DS8 A0 u).tmps[2]?.getD undef=_:=(getD_at _ _).symm.trans ((eval_out (D:=DS8) (a0:=A0) (u:=u) (s:=2) rfl (by omega)).trans e2)
       have o3:(ovr DS8 A0 u).tmps[3]?.getD undef=_:=(getD_at _ _).symm.trans ((eval_out (D:=DS8) (a0:=A0) (u:=u) (s:=3) rfl (by omega)).trans e3)
       have o5:(ovr DS8 A0 u).tmps[5]?.getD undef=_:=(getD_at _ _).symm.trans ((eval_out (D:=DS8) (a0:=A0) (u:=u) (s:=5) rfl (by omega)).trans e5)
       have S':=HS.out.below hB
       obtain⟨⟨z0,z1,z2,z3,z4⟩,⟨z5,z6,z7,z8⟩,_⟩:=nine_cells S'.nine
       have x0W:=(hB.cell (p:=⟨lb,lo+i,none⟩) hlw.1).trans x0
       obtain⟨cW,fW⟩:=HRC.out W hB
       rcases (show k=0∨k=1∨k=2∨k=3∨k=4∨k=5∨k=6∨k=7∨k=8∨k=9∨k=10∨k=11∨k=12∨k=13∨k=14∨k=15∨k=16∨k=17∨k=18∨k=19∨k=20∨k=21∨k=22∨k=23∨k=24∨k=25∨k=26∨k=27∨k=28 by omega) with rfl|rfl|rfl|rfl|rfl|rfl|rfl|rfl|rfl|rfl|rfl|rfl|rfl|rfl|rfl|rfl|rfl|rfl|rfl|rfl|rfl|rfl|rfl|rfl|rfl|rfl|rfl|rfl|rfl
       all_goals obtain rfl:=Option.some.inj ho
       ·refine plainV (v:=.pointer (some ⟨P,0,none⟩)) ?_ ?_ ?_ ?_
        ·exact rfl
        ·exact rfl
        ·simp only[execOp]
         go_simp
         try go_num
         try (rw[IntKind.wrap_i64];omega)
        ·exact rfl
       ·have y0:=(ev 38 rfl (by decide)).trans (hF 0 (by decide) (by simp[Region.binds]))
        refine plainV (v:=.pointer (some ⟨P,0,none⟩)) ?_ ?_ ?_ ?_
        ·exact rfl
        ·exact rfl
        ·simp only[execOp]
         go_simp
         try go_num
         try (rw[IntKind.wrap_i64];omega)
        ·exact rfl
       ·have y1:=(ev 39 rfl (by decide)).trans (hF 1 (by decide) (by simp[Region.binds]))
        refine plainV (v:=.pointer (some ⟨P,2,none⟩)) ?_ ?_ ?_ ?_
        ·exact rfl
        ·exact rfl
        ·simp only[execOp]
         go_simp
         try go_num
         try (rw[IntKind.wrap_i64];omega)
        ·exact rfl
       ·have y2:=(ev 40 rfl (by decide)).trans (hF 2 (by decide) (by simp[Region.binds]))
        refine plainV (v:=.slice (some ⟨gr,0,none⟩) H.row.length cr) ?_ ?_ ?_ ?_
        ·exact rfl
        ·exact rfl
        ·simp only[execOp]
         go_simp
         try go_num
         try (rw[IntKind.wrap_i64];omega)
        ·exact rfl
       ·refine plainV (v:=.slice (some ⟨lb,lo,none⟩) os.length lc) ?_ ?_ ?_ ?_
        ·exact rfl
        ·exact rfl
        ·simp only[execOp]
         go_simp
         try go_num
         try (rw[IntKind.wrap_i64];omega)
        ·exact rfl
       ·refine plainV (v:=.int .i64 (i:Int)) ?_ ?_ ?_ ?_
        ·exact rfl
        ·exact rfl
        ·simp only[execOp]
         go_simp
         try go_num
         try (rw[IntKind.wrap_i64];omega)
        ·exact rfl
       ·have y4:=(ev 42 rfl (by decide)).trans (hF 4 (by decide) (by simp[Region.binds]))
        have y5:=(ev 43 rfl (by decide)).trans (hF 5 (by decide) (by simp[Region.binds]))
        refine plainV (v:=.pointer (some ⟨lb,lo+i,none⟩)) ?_ ?_ ?_ ?_
        ·exact rfl
        ·exact rfl
        ·simp only[execOp]
         go_simp
         try go_num
         try (rw[IntKind.wrap_i64];omega)
        ·exact rfl
       ·have y6:=(ev 44 rfl (by decide)).trans (hF 6 (by decide) (by simp[Region.binds]))
        refine plainV (v:=.int .i64 (j:Int)) ?_ ?_ ?_ ?_
        ·exact rfl
        ·exact rfl
        ·simp only[execOp]
         go_simp
         try go_num
         try (rw[IntKind.wrap_i64];omega)
        ·exact rfl
       ·have y7:=(ev 45 rfl (by decide)).trans (hF 7 (by decide) (by simp[Region.binds]))
        refine plainV (v:=.int .i64 ((j:Int)+1)) ?_ ?_ ?_ ?_
        ·exact rfl
        ·exact rfl
        ·simp only[execOp]
         go_simp
         try go_num
         try (rw[IntKind.wrap_i64];omega)
        ·exact rfl
       ·refine plainV (v:=.int .i64 (k:Int)) ?_ ?_ ?_ ?_
        ·exact rfl
        ·exact rfl
        ·simp only[execOp]
         go_simp
         try go_num
         try (rw[IntKind.wrap_i64];omega)
        ·exact rfl
       ·have y8:=(ev 46 rfl (by decide)).trans (hF 8 (by decide) (by simp[Region.binds]))
        have y9:=(ev 47 rfl (by decide)).trans (hF 9 (by decide) (by simp[Region.binds]))
        refine plainV (v:=.int .i64 ((j:Int)+1+(k:Int))) ?_ ?_ ?_ ?_
        ·exact rfl
        ·exact rfl
        ·simp only[execOp]
         go_simp
         try go_num
         try (rw[IntKind.wrap_i64];omega)
        ·exact rfl
       ·refine plainV (v:=.pointer (some ⟨P,0,none⟩)) ?_ ?_ ?_ ?_
        ·exact rfl
        ·exact rfl
        ·simp only[execOp]
         go_simp
         try go_num
         try (rw[IntKind.wrap_i64];omega)
        ·exact rfl
       ·have y11:=(ev 49 rfl (by decide)).trans (hF 11 (by decide) (by simp[Region.binds]))
        refine plainV (v:=.pointer (some ⟨P,0,none⟩)) ?_ ?_ ?_ ?_
        ·exact rfl
        ·exact rfl
        ·simp only[execOp]
         go_simp
         try go_num
         try (rw[IntKind.wrap_i64];omega)
        ·exact rfl
       ·have y12:=(ev 50 rfl (by decide)).trans (hF 12 (by decide) (by simp[Region.binds]))
        refine plainV (v:=(hpv H (.slice (some ⟨gr,0,none⟩) H.row.length cr) (.slice (some ⟨go,0,none⟩) H.roots.length co) (.slice (some ⟨gm,0,none⟩) H.mourned.length cm) (.slice sa sn sc))) ?_ ?_ ?_ ?_
        ·exact rfl
        ·exact rfl
        ·simp only[execOp]
         go_simp
         try go_num
         try (rw[IntKind.wrap_i64];omega)
        ·exact rfl
       ·refine plainV (v:=.pointer (some ⟨P,0,none⟩)) ?_ ?_ ?_ ?_
        ·exact rfl
        ·exact rfl
        ·simp only[execOp]
         go_simp
         try go_num
         try (rw[IntKind.wrap_i64];omega)
        ·exact rfl
       ·have y14:=(ev 52 rfl (by decide)).trans (hF 14 (by decide) (by simp[Region.binds]))
        refine plainV (v:=.pointer (some ⟨P,0,none⟩)) ?_ ?_ ?_ ?_
        ·exact rfl
        ·exact rfl
        ·simp only[execOp]
         go_simp
         try go_num
         try (rw[IntKind.wrap_i64];omega)
        ·exact rfl
       ·have y15:=(ev 53 rfl (by decide)).trans (hF 15 (by decide) (by simp[Region.binds]))
        refine plainV (v:=.pointer (some ⟨P,2,none⟩)) ?_ ?_ ?_ ?_
        ·exact rfl
        ·exact rfl
        ·simp only[execOp]
         go_simp
         try go_num
         try (rw[IntKind.wrap_i64];omega)
        ·exact rfl
       ·have y16:=(ev 54 rfl (by decide)).trans (hF 16 (by decide) (by simp[Region.binds]))
        refine plainV (v:=.slice (some ⟨gr,0,none⟩) H.row.length cr) ?_ ?_ ?_ ?_
        ·exact rfl
        ·exact rfl
        ·simp only[execOp]
         go_simp
         try go_num
         try (rw[IntKind.wrap_i64];omega)
        ·exact rfl
       ·refine plainV (v:=.slice (some ⟨lb,lo,none⟩) os.length lc) ?_ ?_ ?_ ?_
        ·exact rfl
        ·exact rfl
        ·simp only[execOp]
         go_simp
         try go_num
         try (rw[IntKind.wrap_i64];omega)
        ·exact rfl
       ·refine plainV (v:=.int .i64 (i:Int)) ?_ ?_ ?_ ?_
        ·exact rfl
        ·exact rfl
        ·simp only[execOp]
         go_simp
         try go_num
         try (rw[IntKind.wrap_i64];omega)
        ·exact rfl
       ·have y18:=(ev 56 rfl (by decide)).trans (hF 18 (by decide) (by simp[Region.binds]))
        have y19:=(ev 57 rfl (by decide)).trans (hF 19 (by decide) (by simp[Region.binds]))
        refine plainV (v:=.pointer (some ⟨lb,lo+i,none⟩)) ?_ ?_ ?_ ?_
        ·exact rfl
        ·exact rfl
        ·simp only[execOp]
         go_simp
         try go_num
         try (rw[IntKind.wrap_i64];omega)
        ·exact rfl
       ·have y20:=(ev 58 rfl (by decide)).trans (hF 20 (by decide) (by simp[Region.binds]))
        refine plainV (v:=.int .i64 (j:Int)) ?_ ?_ ?_ ?_
        ·exact rfl
        ·exact rfl
        ·simp only[execOp]
         go_simp
         try go_num
         try (rw[IntKind.wrap_i64];omega)
        ·exact rfl
       ·have y21:=(ev 59 rfl (by decide)).trans (hF 21 (by decide) (by simp[Region.binds]))
        refine plainV (v:=.int .i64 ((j:Int)+1)) ?_ ?_ ?_ ?_
        ·exact rfl
        ·exact rfl
        ·simp only[execOp]
         go_simp
         try go_num
         try (rw[IntKind.wrap_i64];omega)
        ·exact rfl
       ·refine plainV (v:=.int .i64 (k:Int)) ?_ ?_ ?_ ?_
        ·exact rfl
        ·exact rfl
        ·simp only[execOp]
         go_simp
         try go_num
         try (rw[IntKind.wrap_i64];omega)
        ·exact rfl
       ·have y22:=(ev 60 rfl (by decide)).trans (hF 22 (by decide) (by simp[Region.binds]))
        have y23:=(ev 61 rfl (by decide)).trans (hF 23 (by decide) (by simp[Region.binds]))
        refine plainV (v:=.int .i64 ((j:Int)+1+(k:Int))) ?_ ?_ ?_ ?_
        ·exact rfl
        ·exact rfl
        ·simp only[execOp]
         go_simp
         try go_num
         try (rw[IntKind.wrap_i64];omega)
        ·exact rfl
       ·have y17:=(ev 55 rfl (by decide)).trans (hF 17 (by decide) (by simp[Region.binds]))
        have y24:=(ev 62 rfl (by decide)).trans (hF 24 (by decide) (by simp[Region.binds]))
        refine plainV (v:=.pointer (some ⟨gr,j+1+k,none⟩)) ?_ ?_ ?_ ?_
        ·exact rfl
        ·exact rfl
        ·simp only[execOp]
         go_simp
         try go_num
         try (rw[IntKind.wrap_i64];omega)
        ·exact rfl
       ·have y25:=(ev 63 rfl (by decide)).trans (hF 25 (by decide) (by simp[Region.binds]))
        refine plainV (v:=.int .i64 y) ?_ ?_ ?_ ?_
        ·exact rfl
        ·exact rfl
        ·simp only[execOp]
         go_simp
         try go_num
         try (rw[IntKind.wrap_i64];omega)
        ·exact rfl
       ·have y13:=(ev 51 rfl (by decide)).trans (hF 13 (by decide) (by simp[Region.binds]))
        have y26:=(ev 64 rfl (by decide)).trans (hF 26 (by decide) (by simp[Region.binds]))
        refine plainC (f:=45) (args:=#[hpv H (.slice (some ⟨gr,0,none⟩) H.row.length cr) (.slice (some ⟨go,0,none⟩) H.roots.length co) (.slice (some ⟨gm,0,none⟩) H.mourned.length cm) (.slice sa sn sc),.int .i64 y]) ?_ ?_ ?_ ((HFOL.out W hB).mono ?_)
        ·exact rfl
        ·exact rfl
        ·simp only[execOp]
         go_simp
        ·rintro e w' ⟨rfl,b'⟩
         exact⟨_,rfl,b',rfl⟩
       ·have y3:=(ev 41 rfl (by decide)).trans (hF 3 (by decide) (by simp[Region.binds]))
        have y10:=(ev 48 rfl (by decide)).trans (hF 10 (by decide) (by simp[Region.binds]))
        refine plainV (v:=.pointer (some ⟨gr,j+1+k,none⟩)) ?_ ?_ ?_ ?_
        ·exact rfl
        ·exact rfl
        ·simp only[execOp]
         go_simp
         try go_num
         try (rw[IntKind.wrap_i64];omega)
        ·exact rfl
      ·intro o u W ho hB hF
       obtain rfl:=Option.some.inj ho
       have ev:∀s,DS8 s=true→s<67→(ovr DS8 A0 u).tmps[s]?.getD undef=u s:=fun s h1 h2=>(getD_at _ _).symm.trans (eval_in h1 (by omega))
       have y28:=(ev 66 rfl (by decide)).trans (hF 28 (by decide))
       have y27:=(ev 65 rfl (by decide)).trans (hF 27 (by decide))
       obtain⟨cW,fW⟩:=HRC.out W hB
       refine plainS (W':=W.setCell ⟨gr,j+1+k,none⟩ (.int .i64 z)) ?_ ?_ ?_
       ·exact rfl
       ·simp only[execOp]
        go_simp
       ·have HSW:Hid _:=HST.out W (HS.out.below hB)
        have HHW:Hid _:=headAt_other (headAt_below HHd.out hB) (q:=⟨gr,j+1+k,none⟩) hBg (.int .i64 z)
        have xW:(W.setCell ⟨gr,j+1+k,none⟩ (.int .i64 z)).cell? ⟨lb,lo+i,none⟩=some (.int .i64 (j:Int)):=(ch_cell (one_ch W gr (j+1+k) (.int .i64 z)) (p:=⟨lb,lo+i,none⟩) (Nat.lt_of_lt_of_le hlw.1 hB.size) (by simp;exact hlw.2)).trans ((hB.cell (p:=⟨lb,lo+i,none⟩) hlw.1).trans x0)
        have HXW:Hid _:=xW
        subst hA0
        simp[ovr,DS8,List.range,List.range.loop]
        go_wp2
        exact⟨⟨k+1,by omega,by go_num,HSW.out,HHW.out,HXW.out⟩,by simp[intOf];omega⟩
     ·have hkl':¬(k:Int)<(cn:Int):=by omega
      have e:k=cn:=by omega
      subst e
      have HSF:Hid _:=hS
      have elen:=HLN.out
      rw[←elen,List.take_length,←HEQ.out]at HSF
      clear hS hHd elen
      go_wp2
      exact⟨⟨i+1,by omega,by go_num,HSF.out⟩,by simp[intOf];omega⟩
  ·have hlt':¬(i:Int)<(os.length:Int):=by omega
   have e:i=os.length:=by omega
   subst e
   have HDX:Hid (Dif H os (strRow H os)):=by have h:=dif_row HAp.out HMO.out os.length (Nat.le_refl _);rw[List.take_length]at h;exact h
   rw[List.take_length]at HS
   obtain⟨xs,hxs⟩:∃xs,strRow H os=xs:=⟨_,rfl⟩
   rw[hxs]at HS HDX
   have HXE:Hid _:=hxs
   clear hS hxs
   have HRW:Hid (∀k,k<H.roots.length→wordIn H ps (H.roots.getD k 0)=true):=fun k hk=>by
    have h:=HRR.out.roots
    rw[List.all_eq_true]at h
    refine h _ ?_
    rw[List.getD_eq_getElem?_getD,List.getElem?_eq_getElem hk];exact List.getElem_mem hk
   have HMW:Hid (∀k,k<H.mourned.length→wordIn H ps (H.mourned.getD k 0)=true):=fun k hk=>by
    have h:=HRR.out.mourned
    unfold mournOk at h
    rw[List.all_eq_true]at h
    have h1:=h (H.mourned.getD k 0) (by rw[List.getD_eq_getElem?_getD,List.getElem?_eq_getElem hk];exact List.getElem_mem hk)
    simp only[Bool.and_eq_true]at h1
    exact h1.2
   have HFL:Hid (∀W rs ms y,SS w W P base gr go gm cr co cm H.row.length H.roots.length H.mourned.length (.slice sa sn sc) (.slice la os.length lc) H os xs rs ms→wordIn H ps y=true→Calls Tryz.prog 45 #[hpv H (.slice (some ⟨gr,0,none⟩) H.row.length cr) (.slice (some ⟨go,0,none⟩) H.roots.length co) (.slice (some ⟨gm,0,none⟩) H.mourned.length cm) (.slice sa sn sc),.int .i64 y] W fun e w'=>e = .returned (.int .i64 (fol H y))∧Below W.heap.size W w'):=fun W rs ms y S' hwy=>by
    have L:=l10Follow_sim S'.hp HRR.out (sim_of HAp.out HMO.out (H':= { H with row:=xs,roots:=rs,mourned:=ms }) HDX.out) y hwy
    rw[S'.lr,S'.lo,S'.lm]at L
    exact L
   go_wp2_with fail
   go_loopw [6] (fun q wi=>∃k:Nat,k≤H.roots.length∧q = .int .i64 (k:Int)∧SS w wi P base gr go gm cr co cm H.row.length H.roots.length H.mourned.length (.slice sa sn sc) (.slice la os.length lc) H os xs (folK H H.roots k) H.mourned) (fun q _=>H.roots.length-(intOf q).toNat)
   case atStart=>exact⟨0,Nat.zero_le _,rfl,by rw[folK_zero];exact HS.out⟩
   case round=>
    obtain⟨k,hk,rfl,hS⟩:=hrel
    clear HS
    have HS:Hid _:=hS
    obtain⟨⟨z0,z1,z2,z3,z4⟩,⟨z5,z6,z7,z8⟩,_⟩:=nine_cells HS.out.nine
    by_cases hkl:k<H.roots.length
    ·have hkl':(k:Int)<(H.roots.length:Int):=by omega
     have hk6:(k:Int)<6:=by have:=HR6.out;omega
     obtain⟨y,hy⟩:∃y,H.roots.getD k 0=y:=⟨_,rfl⟩
     have hwy:wordIn H ps y=true:=by rw[←hy];exact HRW.out k hkl
     have HST:Hid (∀W,SS w W P base gr go gm cr co cm H.row.length H.roots.length H.mourned.length (.slice sa sn sc) (.slice la os.length lc) H os xs (folK H H.roots k) H.mourned→SS w (W.setCell ⟨go,k,none⟩ (.int .i64 (fol H y))) P base gr go gm cr co cm H.row.length H.roots.length H.mourned.length (.slice sa sn sc) (.slice la os.length lc) H os xs (folK H H.roots (k+1)) H.mourned):=fun W h=>by
      have h2:=h.setRoot HDS.out k (fol H y)
      rw[←hy,folK_set H H.roots hkl]at h2
      rw[←hy];exact h2
     have HFOL:Hid (∀W,Below wr.heap.size wr W→Calls Tryz.prog 45 #[hpv H (.slice (some ⟨gr,0,none⟩) H.row.length cr) (.slice (some ⟨go,0,none⟩) H.roots.length co) (.slice (some ⟨gm,0,none⟩) H.mourned.length cm) (.slice sa sn sc),.int .i64 y] W fun e w'=>e = .returned (.int .i64 (fol H y))∧Below W.heap.size W w'):=fun W hW=>HFL.out W _ _ y (HS.out.below hW) hwy
     have HRC:Hid (∀W,Below wr.heap.size wr W→W.cell? ⟨go,k,none⟩=some (.int .i64 y)∧W.frozen? ⟨go,k,none⟩=false):=fun W hW=>by
      have:=(HS.out.below hW).rootCell (q:=k) (by rw[folK_len H _ hk];exact hkl)
      rw[folK_get H _ hkl,hy]at this
      exact this
     clear hy hwy hS
     generalize fol H y=z at *
     go_upto_region 12 with fail
     clear z0 z1 z2 z3 z4 z5 z6 z7 z8
     generalize hA0:(Act.mk _ [])=A0
     have e0:A0.tmps.getD 0 undef = .pointer (some ⟨P,0,none⟩):=by rw[←hA0];rfl
     have e6:A0.tmps.getD 6 undef = .int .i64 (k:Int):=by rw[←hA0];rfl
     have sz:A0.tmps.size=121:=by rw[←hA0];rfl
     refine wp_region_plain (by kernel_rfl) DS12 (by simp) ?_ 17 rfl dS12 dS12_inj (fun kk tt _=>FS12 P go H.roots.length co k (hpv H (.slice (some ⟨gr,0,none⟩) H.row.length cr) (.slice (some ⟨go,0,none⟩) H.roots.length co) (.slice (some ⟨gm,0,none⟩) H.mourned.length cm) (.slice sa sn sc)) y z kk tt) (fun _ _ _ _ _ h=>h) ?_ ?_ ?_
     ·intro k o ho
      have hk:k<18:=(Array.getElem?_eq_some_iff.1 ho).1
      rcases (show k=0∨k=1∨k=2∨k=3∨k=4∨k=5∨k=6∨k=7∨k=8∨k=9∨k=10∨k=11∨k=12∨k=13∨k=14∨k=15∨k=16∨k=17 by omega) with rfl|rfl|rfl|rfl|rfl|rfl|rfl|rfl|rfl|rfl|rfl|rfl|rfl|rfl|rfl|rfl|rfl|rfl<;>(obtain rfl:=Option.some.inj ho;simp)
     ·intro o ho j hj
      obtain rfl:=Option.some.inj ho
      rcases (show j=0∨j=1∨j=2∨j=3∨j=4∨j=5∨j=6∨j=7∨j=8∨j=9∨j=10∨j=11∨j=12∨j=13∨j=14∨j=15∨j=16 by omega) with rfl|rfl|rfl|rfl|rfl|rfl|rfl|rfl|rfl|rfl|rfl|rfl|rfl|rfl|rfl|rfl|rfl<;>simp[Region.binds]
     ·intro k o u W hk ho hB hF
      have ev:∀s,DS12 s=true→s<88→(ovr DS12 A0 u).tmps[s]?.getD undef=u s:=fun s h1 h2=>(getD_at _ _).symm.trans (eval_in h1 (by omega))
      have o0:(ovr DS12 A0 u).tmps[0]?.getD undef=_:=(getD_at _ _).symm.trans ((eval_out (D:=DS12) (a0:=A0) (u:=u) (s:=0) rfl (by omega)).trans e0)
      have o6:(ovr DS12 A0 u).tmps[6]?.getD undef=_:=(getD_at _ _).symm.trans ((eval_out (D:=DS12) (a0:=A0) (u:=u) (s:=6) rfl (by omega)).trans e6)
      have S':=HS.out.below hB
      obtain⟨⟨z0,z1,z2,z3,z4⟩,⟨z5,z6,z7,z8⟩,_⟩:=nine_cells S'.nine
      obtain⟨cW,fW⟩:=HRC.out W hB
      rcases (show k=0∨k=1∨k=2∨k=3∨k=4∨k=5∨k=6∨k=7∨k=8∨k=9∨k=10∨k=11∨k=12∨k=13∨k=14∨k=15∨k=16 by omega) with rfl|rfl|rfl|rfl|rfl|rfl|rfl|rfl|rfl|rfl|rfl|rfl|rfl|rfl|rfl|rfl|rfl
      all_goals obtain rfl:=Option.some.inj ho
      ·refine plainV (v:=.pointer (some ⟨P,0,none⟩)) ?_ ?_ ?_ ?_
       ·exact rfl
       ·exact rfl
       ·simp only[execOp]
        go_simp
        try go_num
        try (rw[IntKind.wrap_i64];omega)
       ·exact rfl
      ·have y0:=(ev 71 rfl (by decide)).trans (hF 0 (by decide) (by simp[Region.binds]))
       refine plainV (v:=.pointer (some ⟨P,0,none⟩)) ?_ ?_ ?_ ?_
       ·exact rfl
       ·exact rfl
       ·simp only[execOp]
        go_simp
        try go_num
        try (rw[IntKind.wrap_i64];omega)
       ·exact rfl
      ·have y1:=(ev 72 rfl (by decide)).trans (hF 1 (by decide) (by simp[Region.binds]))
       refine plainV (v:=.pointer (some ⟨P,5,none⟩)) ?_ ?_ ?_ ?_
       ·exact rfl
       ·exact rfl
       ·simp only[execOp]
        go_simp
        try go_num
        try (rw[IntKind.wrap_i64];omega)
       ·exact rfl
      ·have y2:=(ev 73 rfl (by decide)).trans (hF 2 (by decide) (by simp[Region.binds]))
       refine plainV (v:=.slice (some ⟨go,0,none⟩) H.roots.length co) ?_ ?_ ?_ ?_
       ·exact rfl
       ·exact rfl
       ·simp only[execOp]
        go_simp
        try go_num
        try (rw[IntKind.wrap_i64];omega)
       ·exact rfl
      ·refine plainV (v:=.int .i64 (k:Int)) ?_ ?_ ?_ ?_
       ·exact rfl
       ·exact rfl
       ·simp only[execOp]
        go_simp
        try go_num
        try (rw[IntKind.wrap_i64];omega)
       ·exact rfl
      ·refine plainV (v:=.pointer (some ⟨P,0,none⟩)) ?_ ?_ ?_ ?_
       ·exact rfl
       ·exact rfl
       ·simp only[execOp]
        go_simp
        try go_num
        try (rw[IntKind.wrap_i64];omega)
       ·exact rfl
      ·have y5:=(ev 76 rfl (by decide)).trans (hF 5 (by decide) (by simp[Region.binds]))
       refine plainV (v:=.pointer (some ⟨P,0,none⟩)) ?_ ?_ ?_ ?_
       ·exact rfl
       ·exact rfl
       ·simp only[execOp]
        go_simp
        try go_num
        try (rw[IntKind.wrap_i64];omega)
       ·exact rfl
      ·have y6:=(ev 77 rfl (by decide)).trans (hF 6 (by decide) (by simp[Region.binds]))
       refine plainV (v:=(hpv H (.slice (some ⟨gr,0,none⟩) H.row.length cr) (.slice (some ⟨go,0,none⟩) H.roots.length co) (.slice (some ⟨gm,0,none⟩) H.mourned.length cm) (.slice sa sn sc))) ?_ ?_ ?_ ?_
       ·exact rfl
       ·exact rfl
       ·simp only[execOp]
        go_simp
        try go_num
        try (rw[IntKind.wrap_i64];omega)
       ·exact rfl
      ·refine plainV (v:=.pointer (some ⟨P,0,none⟩)) ?_ ?_ ?_ ?_
       ·exact rfl
       ·exact rfl
       ·simp only[execOp]
        go_simp
        try go_num
        try (rw[IntKind.wrap_i64];omega)
       ·exact rfl
      ·have y8:=(ev 79 rfl (by decide)).trans (hF 8 (by decide) (by simp[Region.binds]))
       refine plainV (v:=.pointer (some ⟨P,0,none⟩)) ?_ ?_ ?_ ?_
       ·exact rfl
       ·exact rfl
       ·simp only[execOp]
        go_simp
        try go_num
        try (rw[IntKind.wrap_i64];omega)
       ·exact rfl
      ·have y9:=(ev 80 rfl (by decide)).trans (hF 9 (by decide) (by simp[Region.binds]))
       refine plainV (v:=.pointer (some ⟨P,5,none⟩)) ?_ ?_ ?_ ?_
       ·exact rfl
       ·exact rfl
       ·simp only[execOp]
        go_simp
        try go_num
        try (rw[IntKind.wrap_i64];omega)
       ·exact rfl
      ·have y10:=(ev 81 rfl (by decide)).trans (hF 10 (by decide) (by simp[Region.binds]))
       refine plainV (v:=.slice (some ⟨go,0,none⟩) H.roots.length co) ?_ ?_ ?_ ?_
       ·exact rfl
       ·exact rfl
       ·simp only[execOp]
        go_simp
        try go_num
        try (rw[IntKind.wrap_i64];omega)
       ·exact rfl
      ·refine plainV (v:=.int .i64 (k:Int)) ?_ ?_ ?_ ?_
       ·exact rfl
       ·exact rfl
       ·simp only[execOp]
        go_simp
        try go_num
        try (rw[IntKind.wrap_i64];omega)
       ·exact rfl
      ·have y11:=(ev 82 rfl (by decide)).trans (hF 11 (by decide) (by simp[Region.binds]))
       have y12:=(ev 83 rfl (by decide)).trans (hF 12 (by decide) (by simp[Region.binds]))
       refine plainV (v:=.pointer (some ⟨go,k,none⟩)) ?_ ?_ ?_ ?_
       ·exact rfl
       ·exact rfl
       ·simp only[execOp]
        go_simp
        try go_num
        try (rw[IntKind.wrap_i64];omega)
       ·exact rfl
      ·have y13:=(ev 84 rfl (by decide)).trans (hF 13 (by decide) (by simp[Region.binds]))
       refine plainV (v:=.int .i64 y) ?_ ?_ ?_ ?_
       ·exact rfl
       ·exact rfl
       ·simp only[execOp]
        go_simp
        try go_num
        try (rw[IntKind.wrap_i64];omega)
       ·exact rfl
      ·have y7:=(ev 78 rfl (by decide)).trans (hF 7 (by decide) (by simp[Region.binds]))
       have y14:=(ev 85 rfl (by decide)).trans (hF 14 (by decide) (by simp[Region.binds]))
       refine plainC (f:=45) (args:=#[hpv H (.slice (some ⟨gr,0,none⟩) H.row.length cr) (.slice (some ⟨go,0,none⟩) H.roots.length co) (.slice (some ⟨gm,0,none⟩) H.mourned.length cm) (.slice sa sn sc),.int .i64 y]) ?_ ?_ ?_ ((HFOL.out W hB).mono ?_)
       ·exact rfl
       ·exact rfl
       ·simp only[execOp]
        go_simp
       ·rintro e w' ⟨rfl,b'⟩
        exact⟨_,rfl,b',rfl⟩
      ·have y3:=(ev 74 rfl (by decide)).trans (hF 3 (by decide) (by simp[Region.binds]))
       have y4:=(ev 75 rfl (by decide)).trans (hF 4 (by decide) (by simp[Region.binds]))
       refine plainV (v:=.pointer (some ⟨go,k,none⟩)) ?_ ?_ ?_ ?_
       ·exact rfl
       ·exact rfl
       ·simp only[execOp]
        go_simp
        try go_num
        try (rw[IntKind.wrap_i64];omega)
       ·exact rfl
     ·intro o u W ho hB hF
      obtain rfl:=Option.some.inj ho
      have ev:∀s,DS12 s=true→s<88→(ovr DS12 A0 u).tmps[s]?.getD undef=u s:=fun s h1 h2=>(getD_at _ _).symm.trans (eval_in h1 (by omega))
      have y16:=(ev 87 rfl (by decide)).trans (hF 16 (by decide))
      have y15:=(ev 86 rfl (by decide)).trans (hF 15 (by decide))
      obtain⟨cW,fW⟩:=HRC.out W hB
      refine plainS (W':=W.setCell ⟨go,k,none⟩ (.int .i64 z)) ?_ ?_ ?_
      ·exact rfl
      ·simp only[execOp]
       go_simp
      ·have HSW:Hid _:=HST.out W (HS.out.below hB)
       subst hA0
       simp[ovr,DS12,List.range,List.range.loop]
       go_wp2
       exact⟨⟨k+1,by omega,by go_num,HSW.out⟩,by simp[intOf];omega⟩
    ·have hkl':¬(k:Int)<(H.roots.length:Int):=by omega
     have e:k=H.roots.length:=by omega
     have hk6:¬(k:Int)<6:=by have:=HR6.out;omega
     rw[e,folK_end]at HS
     clear hS e
     go_wp2_with fail
     go_loopw [7] (fun q wi=>∃k:Nat,k≤H.mourned.length∧q = .int .i64 (k:Int)∧SS w wi P base gr go gm cr co cm H.row.length H.roots.length H.mourned.length (.slice sa sn sc) (.slice la os.length lc) H os xs (H.roots.map (fol H)) (folK H H.mourned k)) (fun q _=>H.mourned.length-(intOf q).toNat)
     case atStart=>exact⟨0,Nat.zero_le _,rfl,by rw[folK_zero];exact HS.out⟩
     case round=>
      obtain⟨k,hk,rfl,hS⟩:=hrel
      clear HS
      have HS:Hid _:=hS
      obtain⟨⟨z0,z1,z2,z3,z4⟩,⟨z5,z6,z7,z8⟩,_⟩:=nine_cells HS.out.nine
      by_cases hkl:k<H.mourned.length
      ·have hkl':(k:Int)<(H.mourned.length:Int):=by omega
       obtain⟨y,hy⟩:∃y,H.mourned.getD k 0=y:=⟨_,rfl⟩
       have hwy:wordIn H ps y=true:=by rw[←hy];exact HMW.out k hkl
       have HST:Hid (∀W,SS w W P base gr go gm cr co cm H.row.length H.roots.length H.mourned.length (.slice sa sn sc) (.slice la os.length lc) H os xs (H.roots.map (fol H)) (folK H H.mourned k)→SS w (W.setCell ⟨gm,k,none⟩ (.int .i64 (fol H y))) P base gr go gm cr co cm H.row.length H.roots.length H.mourned.length (.slice sa sn sc) (.slice la os.length lc) H os xs (H.roots.map (fol H)) (folK H H.mourned (k+1))):=fun W h=>by
        have h2:=h.setMour HDS.out k (fol H y)
        rw[←hy,folK_set H H.mourned hkl]at h2
        rw[←hy];exact h2
       have HFOL:Hid (∀W,Below wr.heap.size wr W→Calls Tryz.prog 45 #[hpv H (.slice (some ⟨gr,0,none⟩) H.row.length cr) (.slice (some ⟨go,0,none⟩) H.roots.length co) (.slice (some ⟨gm,0,none⟩) H.mourned.length cm) (.slice sa sn sc),.int .i64 y] W fun e w'=>e = .returned (.int .i64 (fol H y))∧Below W.heap.size W w'):=fun W hW=>HFL.out W _ _ y (HS.out.below hW) hwy
       have HRC:Hid (∀W,Below wr.heap.size wr W→W.cell? ⟨gm,k,none⟩=some (.int .i64 y)∧W.frozen? ⟨gm,k,none⟩=false):=fun W hW=>by
        have:=(HS.out.below hW).mourCell (q:=k) (by rw[folK_len H _ hk];exact hkl)
        rw[folK_get H _ hkl,hy]at this
        exact this
       clear hy hwy hS
       generalize fol H y=z at *
       go_upto_region 16 with fail
       clear z0 z1 z2 z3 z4 z5 z6 z7 z8
       generalize hA0:(Act.mk _ [])=A0
       have e0:A0.tmps.getD 0 undef = .pointer (some ⟨P,0,none⟩):=by rw[←hA0];rfl
       have e7:A0.tmps.getD 7 undef = .int .i64 (k:Int):=by rw[←hA0];rfl
       have sz:A0.tmps.size=121:=by rw[←hA0];rfl
       refine wp_region_plain (by kernel_rfl) DS16 (by simp) ?_ 17 rfl dS16 dS16_inj (fun kk tt _=>FS16 P gm H.mourned.length cm k (hpv H (.slice (some ⟨gr,0,none⟩) H.row.length cr) (.slice (some ⟨go,0,none⟩) H.roots.length co) (.slice (some ⟨gm,0,none⟩) H.mourned.length cm) (.slice sa sn sc)) y z kk tt) (fun _ _ _ _ _ h=>h) ?_ ?_ ?_
       ·intro k o ho
        have hk:k<18:=(Array.getElem?_eq_some_iff.1 ho).1
        rcases (show k=0∨k=1∨k=2∨k=3∨k=4∨k=5∨k=6∨k=7∨k=8∨k=9∨k=10∨k=11∨k=12∨k=13∨k=14∨k=15∨k=16∨k=17 by omega) with rfl|rfl|rfl|rfl|rfl|rfl|rfl|rfl|rfl|rfl|rfl|rfl|rfl|rfl|rfl|rfl|rfl|rfl<;>(obtain rfl:=Option.some.inj ho;simp)
       ·intro o ho j hj
        obtain rfl:=Option.some.inj ho
        rcases (show j=0∨j=1∨j=2∨j=3∨j=4∨j=5∨j=6∨j=7∨j=8∨j=9∨j=10∨j=11∨j=12∨j=13∨j=14∨j=15∨j=16 by omega) with rfl|rfl|rfl|rfl|rfl|rfl|rfl|rfl|rfl|rfl|rfl|rfl|rfl|rfl|rfl|rfl|rfl<;>simp[Region.binds]
       ·intro k o u W hk ho hB hF
        have ev:∀s,DS16 s=true→s<114→(ovr DS16 A0 u).tmps[s]?.getD undef=u s:=fun s h1 h2=>(getD_at _ _).symm.trans (eval_in h1 (by omega))
        have o0:(ovr DS16 A0 u).tmps[0]?.getD undef=_:=(getD_at _ _).symm.trans ((eval_out (D:=DS16) (a0:=A0) (u:=u) (s:=0) rfl (by omega)).trans e0)
        have o7:(ovr DS16 A0 u).tmps[7]?.getD undef=_:=(getD_at _ _).symm.trans ((eval_out (D:=DS16) (a0:=A0) (u:=u) (s:=7) rfl (by omega)).trans e7)
        have S':=HS.out.below hB
        obtain⟨⟨z0,z1,z2,z3,z4⟩,⟨z5,z6,z7,z8⟩,_⟩:=nine_cells S'.nine
        obtain⟨cW,fW⟩:=HRC.out W hB
        rcases (show k=0∨k=1∨k=2∨k=3∨k=4∨k=5∨k=6∨k=7∨k=8∨k=9∨k=10∨k=11∨k=12∨k=13∨k=14∨k=15∨k=16 by omega) with rfl|rfl|rfl|rfl|rfl|rfl|rfl|rfl|rfl|rfl|rfl|rfl|rfl|rfl|rfl|rfl|rfl
        all_goals obtain rfl:=Option.some.inj ho
        ·refine plainV (v:=.pointer (some ⟨P,0,none⟩)) ?_ ?_ ?_ ?_
         ·exact rfl
         ·exact rfl
         ·simp only[execOp]
          go_simp
          try go_num
          try (rw[IntKind.wrap_i64];omega)
         ·exact rfl
        ·have y0:=(ev 97 rfl (by decide)).trans (hF 0 (by decide) (by simp[Region.binds]))
         refine plainV (v:=.pointer (some ⟨P,0,none⟩)) ?_ ?_ ?_ ?_
         ·exact rfl
         ·exact rfl
         ·simp only[execOp]
          go_simp
          try go_num
          try (rw[IntKind.wrap_i64];omega)
         ·exact rfl
        ·have y1:=(ev 98 rfl (by decide)).trans (hF 1 (by decide) (by simp[Region.binds]))
         refine plainV (v:=.pointer (some ⟨P,6,none⟩)) ?_ ?_ ?_ ?_
         ·exact rfl
         ·exact rfl
         ·simp only[execOp]
          go_simp
          try go_num
          try (rw[IntKind.wrap_i64];omega)
         ·exact rfl
        ·have y2:=(ev 99 rfl (by decide)).trans (hF 2 (by decide) (by simp[Region.binds]))
         refine plainV (v:=.slice (some ⟨gm,0,none⟩) H.mourned.length cm) ?_ ?_ ?_ ?_
         ·exact rfl
         ·exact rfl
         ·simp only[execOp]
          go_simp
          try go_num
          try (rw[IntKind.wrap_i64];omega)
         ·exact rfl
        ·refine plainV (v:=.int .i64 (k:Int)) ?_ ?_ ?_ ?_
         ·exact rfl
         ·exact rfl
         ·simp only[execOp]
          go_simp
          try go_num
          try (rw[IntKind.wrap_i64];omega)
         ·exact rfl
        ·refine plainV (v:=.pointer (some ⟨P,0,none⟩)) ?_ ?_ ?_ ?_
         ·exact rfl
         ·exact rfl
         ·simp only[execOp]
          go_simp
          try go_num
          try (rw[IntKind.wrap_i64];omega)
         ·exact rfl
        ·have y5:=(ev 102 rfl (by decide)).trans (hF 5 (by decide) (by simp[Region.binds]))
         refine plainV (v:=.pointer (some ⟨P,0,none⟩)) ?_ ?_ ?_ ?_
         ·exact rfl
         ·exact rfl
         ·simp only[execOp]
          go_simp
          try go_num
          try (rw[IntKind.wrap_i64];omega)
         ·exact rfl
        ·have y6:=(ev 103 rfl (by decide)).trans (hF 6 (by decide) (by simp[Region.binds]))
         refine plainV (v:=(hpv H (.slice (some ⟨gr,0,none⟩) H.row.length cr) (.slice (some ⟨go,0,none⟩) H.roots.length co) (.slice (some ⟨gm,0,none⟩) H.mourned.length cm) (.slice sa sn sc))) ?_ ?_ ?_ ?_
         ·exact rfl
         ·exact rfl
         ·simp only[execOp]
          go_simp
          try go_num
          try (rw[IntKind.wrap_i64];omega)
         ·exact rfl
        ·refine plainV (v:=.pointer (some ⟨P,0,none⟩)) ?_ ?_ ?_ ?_
         ·exact rfl
         ·exact rfl
         ·simp only[execOp]
          go_simp
          try go_num
          try (rw[IntKind.wrap_i64];omega)
         ·exact rfl
        ·have y8:=(ev 105 rfl (by decide)).trans (hF 8 (by decide) (by simp[Region.binds]))
         refine plainV (v:=.pointer (some ⟨P,0,none⟩)) ?_ ?_ ?_ ?_
         ·exact rfl
         ·exact rfl
         ·simp only[execOp]
          go_simp
          try go_num
          try (rw[IntKind.wrap_i64];omega)
         ·exact rfl
        ·have y9:=(ev 106 rfl (by decide)).trans (hF 9 (by decide) (by simp[Region.binds]))
         refine plainV (v:=.pointer (some ⟨P,6,none⟩)) ?_ ?_ ?_ ?_
         ·exact rfl
         ·exact rfl
         ·simp only[execOp]
          go_simp
          try go_num
          try (rw[IntKind.wrap_i64];omega)
         ·exact rfl
        ·have y10:=(ev 107 rfl (by decide)).trans (hF 10 (by decide) (by simp[Region.binds]))
         refine plainV (v:=.slice (some ⟨gm,0,none⟩) H.mourned.length cm) ?_ ?_ ?_ ?_
         ·exact rfl
         ·exact rfl
         ·simp only[execOp]
          go_simp
          try go_num
          try (rw[IntKind.wrap_i64];omega)
         ·exact rfl
        ·refine plainV (v:=.int .i64 (k:Int)) ?_ ?_ ?_ ?_
         ·exact rfl
         ·exact rfl
         ·simp only[execOp]
          go_simp
          try go_num
          try (rw[IntKind.wrap_i64];omega)
         ·exact rfl
        ·have y11:=(ev 108 rfl (by decide)).trans (hF 11 (by decide) (by simp[Region.binds]))
         have y12:=(ev 109 rfl (by decide)).trans (hF 12 (by decide) (by simp[Region.binds]))
         refine plainV (v:=.pointer (some ⟨gm,k,none⟩)) ?_ ?_ ?_ ?_
         ·exact rfl
         ·exact rfl
         ·simp only[execOp]
          go_simp
          try go_num
          try (rw[IntKind.wrap_i64];omega)
         ·exact rfl
        ·have y13:=(ev 110 rfl (by decide)).trans (hF 13 (by decide) (by simp[Region.binds]))
         refine plainV (v:=.int .i64 y) ?_ ?_ ?_ ?_
         ·exact rfl
         ·exact rfl
         ·simp only[execOp]
          go_simp
          try go_num
          try (rw[IntKind.wrap_i64];omega)
         ·exact rfl
        ·have y7:=(ev 104 rfl (by decide)).trans (hF 7 (by decide) (by simp[Region.binds]))
         have y14:=(ev 111 rfl (by decide)).trans (hF 14 (by decide) (by simp[Region.binds]))
         refine plainC (f:=45) (args:=#[hpv H (.slice (some ⟨gr,0,none⟩) H.row.length cr) (.slice (some ⟨go,0,none⟩) H.roots.length co) (.slice (some ⟨gm,0,none⟩) H.mourned.length cm) (.slice sa sn sc),.int .i64 y]) ?_ ?_ ?_ ((HFOL.out W hB).mono ?_)
         ·exact rfl
         ·exact rfl
         ·simp only[execOp]
          go_simp
         ·rintro e w' ⟨rfl,b'⟩
          exact⟨_,rfl,b',rfl⟩
        ·have y3:=(ev 100 rfl (by decide)).trans (hF 3 (by decide) (by simp[Region.binds]))
         have y4:=(ev 101 rfl (by decide)).trans (hF 4 (by decide) (by simp[Region.binds]))
         refine plainV (v:=.pointer (some ⟨gm,k,none⟩)) ?_ ?_ ?_ ?_
         ·exact rfl
         ·exact rfl
         ·simp only[execOp]
          go_simp
          try go_num
          try (rw[IntKind.wrap_i64];omega)
         ·exact rfl
       ·intro o u W ho hB hF
        obtain rfl:=Option.some.inj ho
        have ev:∀s,DS16 s=true→s<114→(ovr DS16 A0 u).tmps[s]?.getD undef=u s:=fun s h1 h2=>(getD_at _ _).symm.trans (eval_in h1 (by omega))
        have y16:=(ev 113 rfl (by decide)).trans (hF 16 (by decide))
        have y15:=(ev 112 rfl (by decide)).trans (hF 15 (by decide))
        obtain⟨cW,fW⟩:=HRC.out W hB
        refine plainS (W':=W.setCell ⟨gm,k,none⟩ (.int .i64 z)) ?_ ?_ ?_
        ·exact rfl
        ·simp only[execOp]
         go_simp
        ·have HSW:Hid _:=HST.out W (HS.out.below hB)
         subst hA0
         simp[ovr,DS16,List.range,List.range.loop]
         go_wp2
         exact⟨⟨k+1,by omega,by go_num,HSW.out⟩,by simp[intOf];omega⟩
      ·have hkl':¬(k:Int)<(H.mourned.length:Int):=by omega
       have e:k=H.mourned.length:=by omega
       rw[e,folK_end]at HS
       clear hS e
       obtain⟨hp',hup,hN,hnb⟩:=sim_places HRR.out.some' HMO.out (H':= { H with row:=xs,roots:=H.roots.map (fol H),mourned:=H.mourned.map (fol H) }) HDX.out rfl rfl rfl rfl rfl (by simp) (by simp)
       obtain⟨_,_,r,u,_,hu,_,_⟩:=places_facts hp'
       have SE:=l9Seen_any HS.out.hp hN hu
       have l1:=HS.out.lr
       have l2:=HS.out.lo
       have l3:=HS.out.lm
       rw[l1,l2,l3]at SE
       obtain⟨R,hR⟩:∃R,seenL { H with row:=xs,roots:=H.roots.map (fol H),mourned:=H.mourned.map (fol H) }=R:=⟨_,rfl⟩
       rw[hR]at SE
       have HRE:Hid (R=(strF H ps).seen∧xs=(strF H ps).row):=by
        show _∧_
        unfold strF strH
        rw[HOS.out,HXE.out]
        exact⟨hR.symm,rfl⟩
       clear hp' hup hN hnb hu l1 l2 l3 hR
       go_wp2_with (go_at_call 50;refine SE.mono ?_;clear SE z0 z1 z2 z3 z4 z5 z6 z7 z8;rintro e w3 ⟨u3,rfl,O3,b3⟩;have S3:=HS.out.below b3;obtain⟨⟨z0,z1,z2,z3,z4⟩,⟨z5,z6,z7,z8⟩,zf⟩:=nine_cells S3.nine;have f7:=zf 7;have HSZ:Hid _:=HS.out.ch.size;have HO3:Hid _:=own_base O3 HSZ.out;have HS3:Hid _:=S3;obtain⟨ua,un,uc,rfl⟩:=ints_slice (own_ints O3);clear O3 b3 S3 zf)
       refine bodyPost_end (results_none rfl _ _ _) rfl ⟨_,rfl,nine_set7 HS3.out.nine _,?_,HS3.out.ch.trans ((one_ch _ P _ _).mono (by simp))⟩
       have hd:=HDS.out
       have hblk3:=blk_lt HO3.out
       have one:Ch [P] w3 (w3.setCell ⟨P,7,none⟩ (.slice ua un uc)):=one_ch _ _ _ _
       have k1:=HS3.out.row
       have k2:=HS3.out.roots
       have k3:=HS3.out.mour
       refine⟨⟨?_,?_,?_,?_⟩,?_⟩
       ·have e1:(strF H ps).row.length=H.row.length:=by rw[←HRE.out.2];exact HS3.out.lr
        show World.ownsRow _ _ _ _ _ _ _
        rw[e1,←HRE.out.2]
        exact row_ch k1 one (fun k hk=>by rw[blk_of]at hk;simp at hk ⊢; have:=hd.pr;omega)
       ·have e1:(strF H ps).roots.length=H.roots.length:=by unfold strF strH;simp
        show World.ownsRow _ _ _ _ _ _ _
        rw[e1]
        exact row_ch k2 one (fun k hk=>by rw[blk_of]at hk;simp at hk ⊢; have:=hd.po;omega)
       ·have e1:(strF H ps).mourned.length=H.mourned.length:=by unfold strF strH;simp
        show World.ownsRow _ _ _ _ _ _ _
        rw[e1]
        exact row_ch k3 one (fun k hk=>by rw[blk_of]at hk;simp at hk ⊢; have:=hd.pm;omega)
       ·have h4:=row_ch HO3.out one (fun k hk=>by have:=(hblk3 k hk).1;simp;omega)
        rw[←HRE.out.1]
        exact own_base h4 hbs
       ·have q1:=hd.ro
        have q2:=hd.rm
        have q3:=hd.om
        cases ua with
        |none=>
         show ([gr]++[go]++[gm]++[]).Nodup
         simp
         omega
        |some a=>
         have q4:=(hblk3 a.block (by show _ ∈ [a.block];simp)).1
         show ([gr]++[go]++[gm]++[a.block]).Nodup
         simp
         omega
end Go.Proofs.YtemlagfaaibenaaGreat.hp
