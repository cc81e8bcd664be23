/-
  Chapter 9 as the specification has it: a word of a heap, a note's end, who is young. Chapter 9 as the specification has it: a note's end, who is young. Chapter 4 as the specification has it: an object written into a row. Chapter 4 as the specification has it: PutObject. What the program's ObjectAt a
-/
import Derived.Test.YtocidankimefpaaGreatDoorM7
import Derived.Test.YtocidankimefpaaGreatDoorM8
import Derived.Test.YtocidankimefpaaGreatDoorM3
import Derived.Test.YtocidankimefpaaGreatDoorM1
import Derived.Test.YtocidankimefpaaGreatDoorM5
namespace Go.Proofs.YtocidankimefpaaGreatDoor.hp
open Go.RowKit rows heads words walks
set_option maxRecDepth 100000
set_option linter.unusedVariables false
def wordIn (H:Hp) (ps:List Int) (x:Int):Bool:=isW x&&(!(isA x) || (decide (av x ∈ ps) && !(uF (H.row.getD (av x).toNat 0)==6)))
set_option maxHeartbeats 4000000 in
theorem l9Word_any {w:World} {vr vo vm vs vp:Value} {H:Hp} (h:HpAt w vr vo vm vs H) {ps:List Int} (hp:IntsAt w vp ps) (hpl:ps.length≤1048576) (hP:Plc H ps) (x:Int) :
    Calls Tryz.prog 85 #[hpv H vr vo vm vs,vp,.int .i64 x] w fun e w'=>e = .returned (.bool (wordIn H ps x))∧Below w.heap.size w w':=by
 obtain⟨a1,c1,a2,c2,a3,c3,a4,c4,e1,e2,e3,e4⟩:=hpAt_slices h
 subst e1 e2 e3 e4
 have hp':=hp
 obtain⟨ap,cp,rfl,_,_,_,_⟩:=hp
 have B0:Below w.heap.size w (w.alloc (hpb H (.slice a1 H.row.length c1) (.slice a2 H.roots.length c2) (.slice a3 H.mourned.length c3) (.slice a4 H.seen.length c4))):=(Below.refl _ _).alloc (Nat.le_refl _) _
 obtain⟨⟨z0,z1,z2,z3,z4⟩,⟨z5,z6,z7,z8⟩,_⟩:=nine_cells (nine_new w H (.slice a1 H.row.length c1) (.slice a2 H.roots.length c2) (.slice a3 H.mourned.length c3) (.slice a4 H.seen.length c4))
 have HB0:Hid _:=B0
 have LH:=l1Has_any (w:=w.alloc (hpb H (.slice a1 H.row.length c1) (.slice a2 H.roots.length c2) (.slice a3 H.mourned.length c3) (.slice a4 H.seen.length c4))) (intsAt_below hp' B0) hpl (av x)
 unfold wordIn
 cases dW:isW x
 ·rw[Bool.false_and]
  clear LH
  go_enter Tryz.func85,Tryz.ntmps85
  go_wp2_with (go_at_call 139;refine (sWordOk_any _ _).mono ?_;rintro e w3 ⟨rfl,hw3⟩;rw[hw3,dW];clear hw3 w3)
  go_ret
  exact⟨rfl,HB0.out⟩
 ·rw[Bool.true_and]
  cases dA:isA x
  ·clear LH
   go_enter Tryz.func85,Tryz.ntmps85
   go_wp2_with (first|(go_at_call 139;refine (sWordOk_any _ _).mono ?_;rintro e w3 ⟨rfl,hw3⟩;rw[hw3,dW];clear hw3 w3)|(go_at_call 87;refine (sAddrOf_any _ _).mono ?_;rintro e w3 ⟨rfl,hw3⟩;rw[hw3,dA];clear hw3 w3))
   go_ret
   exact⟨rfl,HB0.out⟩
  ·cases dM:decide (av x ∈ ps)
   ·rw[dM]at LH
    rw[Bool.false_and,Bool.or_false,Bool.not_true]
    go_enter Tryz.func85,Tryz.ntmps85
    go_wp2_with (first|(go_at_call 139;refine (sWordOk_any _ _).mono ?_;rintro e w3 ⟨rfl,hw3⟩;rw[hw3,dW];clear hw3 w3)|(go_at_call 87;refine (sAddrOf_any _ _).mono ?_;rintro e w3 ⟨rfl,hw3⟩;rw[hw3,dA];clear hw3 w3)|(go_at_call 61;refine LH.mono ?_;clear LH;rintro e w3 ⟨rfl,hw3⟩;rw[hw3];clear hw3 w3))
    go_ret
    exact⟨rfl,HB0.out⟩
   ·rw[dM]at LH
    rw[Bool.true_and,Bool.not_true,Bool.false_or]
    obtain⟨j,hj,hjl⟩:=hP _ (of_decide_eq_true dM)
    have L4:=l4Head_any (intsAt_below h.1 B0) j hjl
    rw[hj,Int.toNat_natCast]
    unfold hw at L4
    have SA:=sAddrOf_any x
    rw[hj]at LH SA
    generalize uF (H.row.getD j 0)=f at *
    generalize uS (H.row.getD j 0)=s at *
    generalize uC (H.row.getD j 0)=c at *
    generalize uH (H.row.getD j 0)=g at *
    generalize uP (H.row.getD j 0)=p at *
    generalize uM (H.row.getD j 0)=m at *
    have FF:=field_format s f c g p m
    have hb:(f != 6) = !(f==6):=rfl
    clear B0 dM h hp'
    go_enter Tryz.func85,Tryz.ntmps85
    go_wp2_with (first|(go_at_call 139;refine (sWordOk_any _ _).mono ?_;rintro e w3 ⟨rfl,hw3⟩;rw[hw3,dW];clear hw3 w3)|(go_at_call 87;refine (SA _).mono ?_;clear SA;rintro e w3 ⟨rfl,hw3⟩;rw[hw3,dA];clear hw3 w3)|(go_at_call 61;refine LH.mono ?_;clear LH;rintro e w3 ⟨rfl,hw3⟩;rw[hw3];clear hw3 w3)|(go_at_call 45;refine L4.mono ?_;clear L4;rintro e w3 ⟨rfl,b3⟩;have HB3:Hid _:=HB0.out.trans (b3.mono HB0.out.size);clear b3))
    go_ret
    exact⟨by rw[←hb];rfl,HB3.out⟩
def youngB (H:Hp) (x:Int):Bool:=isA x&&decide (av x<2*H.half)
theorem av_small (x:Int) (h:isA x=true):0≤av x∧av x≤999:=by
 have e:av x=x / 4-1:=by unfold av;simp[h]
 simp only[isA,Bool.and_eq_true,decide_eq_true_eq]at h
 omega
set_option maxHeartbeats 2000000 in
theorem l9Young_any {w:World} {vr vo vm vs:Value} {H:Hp} (h:HpAt w vr vo vm vs H) (h0 : -1000≤H.half∧H.half≤1000) (x:Int) :
    Calls Tryz.prog 89 #[hpv H vr vo vm vs,.int .i64 x] w fun e w'=>e = .returned (.bool (youngB H x))∧Below w.heap.size w w':=by
 obtain⟨a1,c1,a2,c2,a3,c3,a4,c4,e1,e2,e3,e4⟩:=hpAt_slices h
 subst e1 e2 e3 e4
 have HB0:Hid (Below w.heap.size w (w.alloc (hpb H (.slice a1 H.row.length c1) (.slice a2 H.roots.length c2) (.slice a3 H.mourned.length c3) (.slice a4 H.seen.length c4)))):=(Below.refl _ _).alloc (Nat.le_refl _) _
 obtain⟨⟨z0,z1,z2,z3,z4⟩,⟨z5,z6,z7,z8⟩,_⟩:=nine_cells (nine_new w H (.slice a1 H.row.length c1) (.slice a2 H.roots.length c2) (.slice a3 H.mourned.length c3) (.slice a4 H.seen.length c4))
 unfold youngB
 have SA:=sAddrOf_any x
 cases dA:isA x
 ·rw[dA]at SA
  rw[Bool.false_and]
  clear h
  go_enter Tryz.func89,Tryz.ntmps89
  go_wp2_with (go_at_call 87;refine (SA _).mono ?_;clear SA;rintro e w3 ⟨rfl,hw3⟩;rw[hw3];clear hw3 w3)
  go_ret
  exact⟨rfl,HB0.out⟩
 ·rw[dA]at SA
  rw[Bool.true_and]
  have hs:=av_small x dA
  generalize av x=a at *
  clear h dA
  go_enter Tryz.func89,Tryz.ntmps89
  go_wp2_with (go_at_call 87;refine (SA _).mono ?_;clear SA;rintro e w3 ⟨rfl,hw3⟩;rw[hw3];clear hw3 w3)
  go_ret
  exact⟨rfl,HB0.out⟩
def endsL (H:Hp):Nat→Int→Bool
 |0,_=>false
 |n+1,p=>if uF (H.row.getD p.toNat 0)=7 then endsL H n (av (H.row.getD (p.toNat+1) 0)) else true
def Notes (H:Hp) (ps:List Int):Prop:=∀p ∈ ps,uF (H.row.getD p.toNat 0)=7→p.toNat+1<H.row.length∧isA (H.row.getD (p.toNat+1) 0)=true∧av (H.row.getD (p.toNat+1) 0) ∈ ps
set_option maxHeartbeats 4000000 in
theorem l9Ends_any {w:World} {vr vo vm vs:Value} {H:Hp} (h:HpAt w vr vo vm vs H) (hrl:H.row.length≤1048576) {ps:List Int} (hP:Plc H ps) (hN:Notes H ps) (p:Int) (hp:p ∈ ps) (n:Nat) (hn:n≤1048576) :
    Calls Tryz.prog 86 #[hpv H vr vo vm vs,.int .i64 p,.int .i64 n] w fun e w'=>e = .returned (.bool (endsL H (n+1) p))∧Below w.heap.size w w':=by
 obtain⟨a1,c1,a2,c2,a3,c3,a4,c4,e1,e2,e3,e4⟩:=hpAt_slices h
 subst e1 e2 e3 e4
 have B0:Below w.heap.size w (w.alloc (hpb H (.slice a1 H.row.length c1) (.slice a2 H.roots.length c2) (.slice a3 H.mourned.length c3) (.slice a4 H.seen.length c4))):=(Below.refl _ _).alloc (Nat.le_refl _) _
 have HB0:Hid _:=B0
 have HT0:Hid _:=nine_new w H (.slice a1 H.row.length c1) (.slice a2 H.roots.length c2) (.slice a3 H.mourned.length c3) (.slice a4 H.seen.length c4)
 have HH:Hid _:=h
 obtain⟨R,hR⟩:∃R,endsL H (n+1) p=R:=⟨_,rfl⟩
 rw[hR]
 have HR:Hid _:=hR
 have HP:Hid _:=hP
 have HN:Hid _:=hN
 clear h B0 hR hP hN
 go_enter Tryz.func86,Tryz.ntmps86
 go_wp2_with fail
 go_loopw [1,2] (fun u i wz=>∃(q:Int) (k:Nat),u = .int .i64 q∧i = .int .i64 ((k:Int)-1)∧k≤n+1∧q ∈ ps∧endsL H k q=R∧Nine wz w.heap.size 26 (.int .i64 H.half) (.int .i64 H.old) (.slice a1 H.row.length c1) (.int .i64 H.side) (.int .i64 H.top) (.slice a2 H.roots.length c2) (.slice a3 H.mourned.length c3) (.slice a4 H.seen.length c4) (.int .i64 H.seed)∧Below w.heap.size w wz) (fun _ i _=>(intOf i+1).toNat)
 case atStart=>exact⟨p,n+1,rfl,by simp,Nat.le_refl _,hp,HR.out,HT0.out,HB0.out⟩
 case round=>
  obtain⟨q,k,rfl,rfl,hk,hq,hE,hT,hB⟩:=hrel
  clear HT0 HB0 HR
  obtain⟨j,hj,hjl⟩:=HP.out q hq
  subst hj
  obtain⟨⟨z0,z1,z2,z3,z4⟩,⟨z5,z6,z7,z8⟩,_⟩:=nine_cells hT
  have sr:=hB.size
  cases k with
  |zero=>
   have hE':R=false:=by rw[←hE];rfl
   have HE:Hid _:=hE'
   have HB:Hid _:=hB
   have hneg:¬((0:Nat):Int)-1 ≥ 0:=by decide
   clear hE hE' hT hB
   go_wp2
   go_ret
   exact⟨by rw[HE.out];rfl,HB.out⟩
  |succ k=>
   have hI:=(hpAt_below HH.out hB).1
   have L4:=l4Head_any hI j hjl
   unfold hw at L4
   have hge:((k+1:Nat):Int)-1 ≥ 0:=by omega
   have hee:endsL H (k+1) (j:Int)=if uF (H.row.getD j 0)=7 then endsL H k (av (H.row.getD (j+1) 0)) else true:=by
    simp only[endsL,Int.toNat_natCast]
   rw[hee]at hE
   have hnn:=HN.out (j:Int) hq
   rw[Int.toNat_natCast]at hnn
   generalize uF (H.row.getD j 0)=f at *
   generalize uS (H.row.getD j 0)=s at *
   generalize uC (H.row.getD j 0)=c at *
   generalize uH (H.row.getD j 0)=g at *
   generalize uP (H.row.getD j 0)=p0 at *
   generalize uM (H.row.getD j 0)=m at *
   have FF:=field_format s f c g p0 m
   have HT:Hid _:=hT
   have HB:Hid _:=hB
   by_cases h7:f=7
   ·obtain⟨hj1,hA,hmem⟩:=hnn h7
    subst h7
    rw[if_pos rfl]at hE
    obtain⟨a',c',e',_,_,_,hcc⟩:=hI
    have e1:a1=a':=by injection e'
    subst e1
    obtain⟨b,off,rfl,hb,hcc⟩:=hcc (by omega)
    have x1:=hcc (j+1) hj1
    have SA:=sAddrOf_any (H.row.getD (j+1) 0)
    rw[hA]at SA
    have HE:Hid _:=hE
    have HM:Hid _:=hmem
    generalize H.row.getD (j+1) 0=y at *
    generalize av y=ay at *
    have hj1':((j:Int)+1).toNat=j+1:=by omega
    have hj2:(0:Int)≤(j:Int)+1:=by omega
    have hj3:(j:Int)+1<(H.row.length:Int):=by omega
    clear hT hB hE hmem hcc e' hee hnn
    go_wp2_with fail
    refine L4.mono ?_
    rintro e w2 ⟨rfl,b2⟩
    have T2:=nine_below HT.out b2
    have x2:=(b2.cell (p:=⟨b,off+(j+1),none⟩) hb).trans x1
    obtain⟨⟨y0,y1,y2,y3,y4⟩,⟨y5,y6,y7,y8⟩,_⟩:=nine_cells T2
    have HT2:Hid _:=T2
    have HB2:Hid _:=HB.out.trans (b2.mono sr)
    clear L4 b2 T2 z0 z1 z2 z3 z4 z5 z6 z7 z8 x1
    go_wp2_with (go_at_call 87;refine (SA _).mono ?_;clear SA;rintro e w3 ⟨rfl,hw3⟩;rw[hw3];clear hw3 w3)
    exact⟨⟨ay,k,rfl,by go_num,by omega,HM.out,HE.out,HT2.out,HB2.out⟩,by simp[intOf]⟩
   ·have h7':(f != 7)=true:=by simp[h7]
    rw[if_neg h7]at hE
    have HE:Hid (R=true):=hE.symm
    clear hT hB hE hee hnn
    go_wp2_with fail
    refine L4.mono ?_
    rintro e w2 ⟨rfl,b2⟩
    have HB2:Hid _:=HB.out.trans (b2.mono sr)
    clear L4 b2
    go_wp2
    go_ret
    exact⟨by rw[HE.out];rfl,HB2.out⟩
end Go.Proofs.YtocidankimefpaaGreatDoor.hp
namespace Go.Proofs.YtocidankimefpaaGreatDoor.walks
open Go.RowKit rows heads words
set_option maxRecDepth 100000
theorem grown_set {w w':World} {g:Nat} (h:w.grownBy w' (some g)) (k:Nat) (u:Value):w.grownBy (w'.setCell ⟨g,k,none⟩ u) (some g):=
 ⟨h.os,h.tape,h.output,by simpa using h.size,fun k' hk hne=>(Below.heap_setCell w' _ u k' (fun e=>hne (by simp[e]))).trans (h.block k' hk hne)⟩
theorem grown_alloc {w w':World} {r:Option Nat} (h:w.grownBy w' r) (o:Obj):w.grownBy (w'.alloc o) r:=
 ⟨h.os,h.tape,h.output,by have:=h.size;simp;omega,fun k hk hne=>(Below.heap_alloc w' o k (Nat.lt_of_lt_of_le hk h.size)).trans (h.block k hk hne)⟩
set_option maxHeartbeats 4000000 in
theorem l4Write_any {w:World} {base g len cap k:Nat} {xs ys:List Int} {vs:Value} {s f c h:Int} {p m:Bool} (hO:w.ownsRow base 2 1 (.slice (some ⟨g,0,none⟩) len cap) len (cellsOf xs)) (hx:xs.length=len) (hl:len≤1048576) (hgw:g<w.heap.size)
    (hy:∀W,w.grownBy W (some g)→IntsAt W vs ys) (hok:hok s f c h p m=true) (hys:(ys.length:Int)=s) (n:Nat) (hn:sz s=n) (hkn:k+n≤len) :
    Calls Tryz.prog 64 #[.slice (some ⟨g,0,none⟩) len cap,.int .i64 k,hv s f c h p m,vs] w fun e w'=>(∃v',e = .returned v')∧w'.ownsRow base 2 1 (.slice (some ⟨g,0,none⟩) len cap) len (cellsOf (put xs k (pk s f c h p m) ys ys.length n))∧w.grownBy w' (some g):=by
 obtain⟨s0,s1,_⟩:=hok_true hok
 have hz:=sz_bounds s0 s1
 rw[hn]at hz
 have hn1:ys.length<n:=by omega
 have T0:HeadAt (w.alloc (hb s f c h p m)) w.heap.size s f c h p m:=headAt_new _ _ _ _ _ _ _
 have O0:=World.ownsRow.alloc hO (hb s f c h p m)
 have B0:w.grownBy (w.alloc (hb s f c h p m)) (some g):=grown_alloc (World.grownBy.refl _ _) _
 have HLEN:Hid _:=(World.ownsRow.lt hO)
 clear hO
 go_enter Tryz.func64,Tryz.ntmps64
 go_wp2_with fail
 go_loopw [8] (fun i wr=>∃j:Nat,j≤n∧i = .int .i64 (j:Int)∧wr.ownsRow base 2 1 (.slice (some ⟨g,0,none⟩) len cap) len (cellsOf (fill xs k j 0))∧HeadAt wr w.heap.size s f c h p m∧w.grownBy wr (some g)) (fun i _=>n-(intOf i).toNat)
 case atStart=>exact⟨0,by omega,by simp,by rw[fill_zero];exact O0,T0,B0⟩
 case round=>
  obtain⟨j,hj,rfl,Or,Tr,Br⟩:=hrel
  obtain⟨h0,h1,h2,h3,h4,h5,hfz⟩:=headAt_cells Tr
  by_cases hlt:j<n
  ·have hlt':(j:Int)<(n:Int):=by omega
   have c0:=World.ownsRow.cellAt Or (k+j) (by omega)
   have c1:=World.ownsRow.frozenAt Or (k+j)
   have S:=(World.ownsRow.stored Or (k+j) (.int .i64 0)).1
   have e1:(cellsOf (fill xs k j 0)).set (k+j) (.int .i64 0)=cellsOf (fill xs k (j+1) 0):=by
    rw[←fill_set (by omega)];simp[cellsOf,List.map_set]
   rw[e1]at S
   have HO:Hid _:=S
   have HB:Hid _:=grown_set Br (k+j) (.int .i64 0)
   have HT:Hid _:=headAt_other Tr (q:=⟨g,k+j,none⟩) (by show w.heap.size≠g;omega) (.int .i64 0)
   obtain⟨y,hy'⟩:∃y,(cellsOf (fill xs k j 0))[k+j]? = some y:=⟨_,List.getElem?_eq_getElem (by simp[fill_length (show k+j≤xs.length by omega)];omega)⟩
   rw[hy']at c0
   clear Or Br Tr S e1 hy'
   go_wp2_with (go_at_call 63;refine (l2Size_any _ _ s0 s1).mono ?_;rintro e w2 ⟨rfl,hw2⟩;rw[hw2,hn];clear hw2 w2)
   exact⟨⟨j+1,by omega,by go_num,HO,HT,HB⟩,by simp[intOf];omega⟩
  ·have e:j=n:=by omega
   subst e
   have hlt':¬(j:Int)<(j:Int):=by omega
   have HO:Hid _:=Or
   have HB:Hid _:=Br
   have HT:Hid _:=Tr
   clear Or Br Tr
   go_wp2_with (go_at_call 63;refine (l2Size_any _ _ s0 s1).mono ?_;rintro e w2 ⟨rfl,hw2⟩;rw[hw2,hn];clear hw2 w2)
   refine (l2Packed_ok s f c h p m wr hok).mono ?_
   rintro e w2 ⟨rfl,hw2⟩
   have O2:w2.ownsRow base 2 1 (.slice (some ⟨g,0,none⟩) len cap) len (cellsOf (fill xs k j 0)):=by rw[hw2];exact World.ownsRow.alloc HO.out _
   have T2:HeadAt w2 w.heap.size s f c h p m:=by rw[hw2];exact headAt_alloc HT.out _
   have B2:w.grownBy w2 (some g):=by rw[hw2];exact grown_alloc HB.out _
   clear hw2 HO HT HB h0 h1 h2 h3 h4 h5 hfz
   have c0:=World.ownsRow.cellAt O2 k (by omega)
   have c1:=World.ownsRow.frozenAt O2 k
   have S:=(World.ownsRow.stored O2 k (.int .i64 (pk s f c h p m))).1
   have e1:(cellsOf (fill xs k j 0)).set k (.int .i64 (pk s f c h p m))=cellsOf (put xs k (pk s f c h p m) ys 0 j):=by
    rw[←put_zero (by omega) (by omega)];simp[cellsOf,List.map_set]
   rw[e1]at S
   have HO:Hid _:=S
   have HB:Hid _:=grown_set B2 k (.int .i64 (pk s f c h p m))
   obtain⟨y,hy'⟩:∃y,(cellsOf (fill xs k j 0))[k]? = some y:=⟨_,List.getElem?_eq_getElem (by simp[fill_length (show k+j≤xs.length by omega)];omega)⟩
   rw[hy']at c0
   clear O2 B2 T2 S e1 hy' hlt' hlt T0 O0 B0
   have IY:IntsAt w vs ys:=hy w (World.grownBy.refl _ _)
   obtain⟨ya,ycap,rfl,ylc,ycm,_,_⟩:=IY
   go_wp2_with fail
   go_loopw [9] (fun i wr=>∃q:Nat,q≤ys.length∧i = .int .i64 (q:Int)∧wr.ownsRow base 2 1 (.slice (some ⟨g,0,none⟩) len cap) len (cellsOf (put xs k (pk s f c h p m) ys q j))∧w.grownBy wr (some g)) (fun i _=>ys.length-(intOf i).toNat)
   case atStart=>exact⟨0,by omega,by simp,HO,HB⟩
   case round=>
    obtain⟨q,hq,rfl,Or,Br⟩:=hrel
    clear HO HB c0 c1
    by_cases hlt:q<ys.length
    ·have hlt':(q:Int)<(ys.length:Int):=by omega
     obtain⟨a',cap',e',_,_,_,hcy⟩:=hy _ Br
     injection e' with e1 e2 e3
     subst e1 e3
     obtain⟨yb,yoff,rfl,_,hcy⟩:=hcy (by omega)
     have y0:=hcy q hlt
     have c0:=World.ownsRow.cellAt Or (k+1+q) (by omega)
     have c1:=World.ownsRow.frozenAt Or (k+1+q)
     have S:=(World.ownsRow.stored Or (k+1+q) (.int .i64 (ys.getD q 0))).1
     have e1:(cellsOf (put xs k (pk s f c h p m) ys q j)).set (k+1+q) (.int .i64 (ys.getD q 0))=cellsOf (put xs k (pk s f c h p m) ys (q+1) j):=by
      rw[←put_set (by omega) hlt (by omega)];simp[cellsOf,List.map_set]
     rw[e1]at S
     have HO:Hid _:=S
     have HB:Hid _:=grown_set Br (k+1+q) (.int .i64 (ys.getD q 0))
     obtain⟨y,hy'⟩:∃y,(cellsOf (put xs k (pk s f c h p m) ys q j))[k+1+q]? = some y:=⟨_,List.getElem?_eq_getElem (by simp[put_length (ys:=ys) (hd:=pk s f c h p m) (show k+j≤xs.length by omega) (show q≤ys.length by omega) (show q<j by omega)];omega)⟩
     rw[hy']at c0
     clear Or Br S e1 hy' hcy hy
     generalize ys.getD q 0=z at *
     go_wp2
     exact⟨⟨q+1,by omega,by go_num,HO,HB⟩,by simp[intOf];omega⟩
    ·have e:q=ys.length:=by omega
     subst e
     have HO:Hid _:=Or
     have HB:Hid _:=Br
     clear Or Br hy
     go_wp2
     go_end0
     exact⟨⟨_,rfl⟩,HO,HB⟩
theorem own_nothing2 {w:World} {base g:Nat} (hg:g=w.heap.size) (hb:base≤g):rows.Own (w.alloc (.cells #[] 2)) base (.slice (some ⟨g,0,none⟩) 0 0) []:=by
 subst hg;exact own_nothing w base hb
theorem all_yes {ys:List Int} (h:∀q,q<ys.length→isW (ys.getD q 0)=true):ys.all isW=true:=by
 rw[List.all_eq_true]
 intro x hx
 obtain⟨q,hq,rfl⟩:=List.mem_iff_getElem.1 hx
 have:=h q hq
 rwa [List.getD_eq_getElem?_getD,List.getElem?_eq_getElem hq]at this
theorem isFree_any (s f c h:Int) (p m:Bool) (u:Value) (w:World) :
    Calls Tryz.prog 136 #[cv s f c h p m u] w fun e w'=>e = .returned (.bool (f==6))∧w'=w.alloc (cb s f c h p m u):=by
 go_enter Tryz.func136,Tryz.ntmps136
 go_wp2
 go_ret
 exact⟨rfl,rfl⟩
theorem slots_any (s f c h:Int) (p m:Bool) (b o N n:Nat) (w:World) (hN:N≤1048576) (hn:(if f=7 then 1 else s)=(n:Int)) (hle:1+n≤N) :
    Calls Tryz.prog 71 #[cv s f c h p m (.slice (some ⟨b,o,none⟩) N N)] w fun e w'=>e = .returned (piece (some ⟨b,o,none⟩) 1 n)∧Below w.heap.size w w':=by
 have B0:Below w.heap.size w ((w.alloc (cb s f c h p m (.slice (some ⟨b,o,none⟩) N N))).alloc (cb s f c h p m (.slice (some ⟨b,o,none⟩) N N))):=((Below.refl _ w).alloc (Nat.le_refl _) _).alloc (by simp) _
 have HB:Hid _:=B0
 clear B0
 by_cases h7:f=7
 ·subst h7
  have e1:n=1:=by simp at hn;omega
  subst e1
  go_enter Tryz.func71,Tryz.ntmps71
  go_wp2_with (go_at_call 70;refine (isNote_any _ _ _ _ _ _ _ _).mono ?_;rintro e w1 ⟨rfl,rfl⟩)
  all_goals go_ret
  all_goals exact⟨by simp[piece,Addr.add],HB⟩
 ·have h7':(f==7)=false:=by simpa using h7
  rw[if_neg h7]at hn
  subst hn
  go_enter Tryz.func71,Tryz.ntmps71
  go_wp2_with (go_at_call 70;refine (isNote_any _ _ _ _ _ _ _ _).mono ?_;rintro e w1 ⟨rfl,rfl⟩)
  ·have e0:n=0:=by omega
   subst e0
   go_ret
   exact⟨by simp[piece],HB⟩
  ·go_ret
   exact⟨by simp[piece,Addr.add, *],HB⟩
theorem piece_is {w:World} {a:Option Addr} {cap:Nat} {xs:List Int} (h:IntsAt w (.slice a xs.length cap) xs) (hl:xs.length≤1048576) (k n:Nat) (hk:k+n≤xs.length):IntsAt w (piece a k n) ((xs.drop k).take n):=by
 obtain⟨a',cap',e,hlc,hcm,hnil,hc⟩:=h
 injection e with e1 e2 e3
 subst e1 e3
 have el:((xs.drop k).take n).length=n:=by simp;omega
 by_cases h0:n=0
 ·subst h0
  rw[piece_none]
  exact⟨a,0,by simp,by simp,by decide,fun _=>rfl,fun h=>by simp at h⟩
 ·obtain⟨b,off,rfl,hb,hcc⟩:=hc (by omega)
  rw[piece_at b off k n (by omega)]
  refine⟨_,n,by rw[el],by omega,by unfold maxLen;omega,fun h=>by simp at h,fun _=>⟨b,off+k,rfl,hb,fun i hi => ?_⟩⟩
  rw[el]at hi
  have:=hcc (k+i) (by omega)
  rw[Nat.add_assoc,this]
  simp[List.getD_eq_getElem?_getD,hi]
end Go.Proofs.YtocidankimefpaaGreatDoor.walks
