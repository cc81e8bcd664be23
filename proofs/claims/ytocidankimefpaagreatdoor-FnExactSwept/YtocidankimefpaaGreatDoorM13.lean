/-
  Chapter 8 as the specification has it: the places of free chunks. What may change while a drawn region with a store is run: nothing of what there was but one block, which once it is as wanted stays so. Chapter 8 as the specification has it: free chunks made one. Chapter 8 as the specification has it
-/
import Derived.Test.YtocidankimefpaaGreatDoorM10
import Derived.Test.YtocidankimefpaaGreatDoorM1
import Derived.Maps.AppendAt
import Derived.Test.YtocidankimefpaaGreatDoorM7
import Derived.Test.YtocidankimefpaaGreatDoorM4
namespace Go.Proofs.YtocidankimefpaaGreatDoor.walks
open Go.RowKit rows heads words
set_option maxRecDepth 100000
theorem grown_join {a b c:World} {r:Option Nat} (h:a.grownBy b r) (k:b.grownBy c r):a.grownBy c r:=
 ⟨k.os.trans h.os,k.tape.trans h.tape,k.output.trans h.output,Nat.le_trans h.size k.size,fun j hj hn=>(k.block j (Nat.lt_of_lt_of_le hj h.size) hn).trans (h.block j hj hn)⟩
theorem app_int {w w1:World} {base:Nat} {v v':Value} {o:Obj} {xs:List Int} {x:Int} (hown:w1.ownsRow base 2 1 v' (xs.length+1) (cellsOf xs++[.int .i64 x])) (hgrow:(w.alloc o).grownBy w1 v.ownBlock) (hat:v'.ownBlock=v.ownBlock∨v'.ownBlock=some (w.alloc o).heap.size) :
    rows.Own w1 base v' (xs++[x])∧w.grownBy w1 v.ownBlock∧∀k,v'.ownBlock=some k→v.ownBlock=some k∨w.heap.size<k:=
 ⟨own_snoc hown,grown_join (World.grownBy_alloc w o _) hgrow,fun k e=>by
  rcases hat with h|h
  ·exact .inl (h▸e)
  ·right;rw[h]at e;injection e with e;simp at e;omega⟩
theorem one_int (w:World) (x:Int):∀i u,[Value.int .i64 x][i]? = some u→(w.alloc (.cells #[.int .i64 x] 2)).cell? ((⟨w.heap.size,0,none⟩:Addr).add i)=some u:=by
 intro j u hj
 match j,hj with
 |0,hj=>simp at hj;subst hj;simp[Addr.add]
theorem filter_next {L:List Int} {p:Int→Bool} {k:Nat} (hk:k<L.length):(L.take (k+1)).filter p=(L.take k).filter p++(if p (L.getD k 0)=true then [L.getD k 0] else []):=by
 rw[List.take_add_one,List.filter_append,List.getElem?_eq_getElem hk,List.getD_eq_getElem?_getD,List.getElem?_eq_getElem hk]
 simp only[Option.toList_some,Option.getD_some]
 congr 1
 cases h:p L[k]<;>simp[h]
end Go.Proofs.YtocidankimefpaaGreatDoor.walks
namespace Go.Proofs.YtocidankimefpaaGreatDoor.hp
open Go.RowKit rows heads words walks region
set_option linter.unusedVariables false
theorem ch_cell {S:List Nat} {w w':World} {p:Addr} (h:Ch S w w') (hl:p.block<w.heap.size) (hn:p.block ∉ S):w'.cell? p=w.cell? p:=by
 unfold World.cell?
 rw[h.block _ hl hn]
end Go.Proofs.YtocidankimefpaaGreatDoor.hp
namespace Go.Proofs.YtocidankimefpaaGreatDoor.walks
open Go.RowKit rows heads words
set_option maxRecDepth 100000
theorem rowI_below {w w':World} {base n:Nat} {v:Value} {xs:List Int} (h:w.ownsRow base 2 1 v n (cellsOf xs)) (hx:xs.length=n) (hb:Below w.heap.size w w'):w'.ownsRow base 2 1 v n (cellsOf xs):=by
 subst hx
 exact own_below h hb
def cellN (w:World) (g k:Nat):Nat:=match w.cell? ⟨g,k,none⟩ with
 |some (.int _ x)=>x.toNat
 |_=>0
theorem cellN_row {w:World} {base g len cap k:Nat} {xs:List Int} (h:w.ownsRow base 2 1 (.slice (some ⟨g,0,none⟩) len cap) len (cellsOf xs)) (hx:xs.length=len) (hk:k<len):cellN w g k=(xs.getD k 0).toNat:=by
 have:=World.ownsRow.cellAt h k (by omega)
 unfold cellN
 rw[this]
 simp[List.getD_eq_getElem?_getD,List.getElem?_eq_getElem (show k<xs.length by omega)]
theorem meas_go {T k n a b:Nat} (h:k<T) (hn:0<n) (ha:a≤T):(T-(k+n))*(T+1)+a<(T-k)*(T+1)+b:=by
 have h1:(T-(k+n)+1)*(T+1)≤(T-k)*(T+1):=Nat.mul_le_mul_right _ (by omega)
 rw[Nat.add_mul]at h1
 omega
end Go.Proofs.YtocidankimefpaaGreatDoor.walks
namespace Go.Proofs.YtocidankimefpaaGreatDoor.walks
open Go.RowKit rows heads words
set_option maxRecDepth 100000
set_option linter.unusedVariables false
theorem gtr {a w w':World} {row:Option Nat} (h:a.grownBy w row) (k:w.grownBy w' row):a.grownBy w' row:=
 ⟨k.os.trans h.os,k.tape.trans h.tape,k.output.trans h.output,Nat.le_trans h.size k.size,fun j hj hn=>(k.block j (Nat.lt_of_lt_of_le hj h.size) hn).trans (h.block j hj hn)⟩
theorem gset (W:World) (g i:Nat) (v:Value):W.grownBy (W.setCell ⟨g,i,none⟩ v) (some g):=⟨rfl,rfl,rfl,by simp,fun j _ hn=>Below.heap_setCell W _ v j (fun e=>hn (by simp[e]))⟩
theorem gbel {w w':World} {row:Option Nat} (h:Below w.heap.size w w'):w.grownBy w' row:=⟨h.os,h.tape,h.output,h.size,fun k hk _=>h.block k hk⟩
set_option maxHeartbeats 4000000 in
theorem l4Free_g {w:World} {base g len cap k n:Nat} {xs:List Int} (hO:w.ownsRow base 2 1 (.slice (some ⟨g,0,none⟩) len cap) len (cellsOf xs)) (hx:xs.length=len) (hl:len≤1048576) (hg:base≤g) (hbw:base≤w.heap.size) (h2:2≤n) (hkn:k+n≤len) :
    Calls Tryz.prog 62 #[.slice (some ⟨g,0,none⟩) len cap,.int .i64 k,.int .i64 n] w fun e w'=>(∃v',e = .returned v')∧w'.ownsRow base 2 1 (.slice (some ⟨g,0,none⟩) len cap) len (cellsOf (freeR xs k n))∧w.grownBy w' (some g):=by
 have hok6:hok 0 6 0 0 false false=true:=by decide
 go_enter Tryz.func62,Tryz.ntmps62
 go_wp2_with fail
 go_loopw [6] (fun i wr=>∃j:Nat,j≤n∧i = .int .i64 (j:Int)∧wr.ownsRow base 2 1 (.slice (some ⟨g,0,none⟩) len cap) len (cellsOf (fill xs k j 0))∧w.grownBy wr (some g)) (fun i _=>n-(intOf i).toNat)
 case atStart=>exact⟨0,by omega,by simp,by rw[fill_zero];exact hO,World.grownBy.refl _ _⟩
 case round=>
  obtain⟨j,hj,rfl,Or,Br⟩:=hrel
  by_cases hlt:j<n
  ·have hlt':(j:Int)<(n:Int):=by omega
   have c0:=World.ownsRow.cellAt Or (k+j) (by omega)
   have c1:=World.ownsRow.frozenAt Or (k+j)
   have S:=(World.ownsRow.stored Or (k+j) (.int .i64 0)).1
   have e1:(cellsOf (fill xs k j 0)).set (k+j) (.int .i64 0)=cellsOf (fill xs k (j+1) 0):=by
    rw[←fill_set (by omega)];simp[cellsOf,List.map_set]
   rw[e1]at S
   have HO:Hid _:=S
   have HB:Hid _:=gtr Br (gset wr g (k+j) (.int .i64 0))
   obtain⟨y,hy'⟩:∃y,(cellsOf (fill xs k j 0))[k+j]? = some y:=⟨_,List.getElem?_eq_getElem (by simp[fill_length (show k+j≤xs.length by omega)];omega)⟩
   rw[hy']at c0
   clear Or Br S e1 hy' hO
   go_wp2
   exact⟨⟨j+1,by omega,by go_num,HO,HB⟩,by simp[intOf];omega⟩
  ·have e:j=n:=by omega
   subst e
   have hlt':¬(j:Int)<(j:Int):=by omega
   have HO:Hid _:=Or
   have HB:Hid _:=Br
   have HFR:Hid (((fill xs k j 0).set k (pk 0 6 0 0 false false)).set (k+1) (j:Int)=freeR xs k j):=freeR_set (by omega) h2
   clear Or Br hO
   go_wp2_with fail
   refine (l2Packed_ok 0 6 0 0 false false wr hok6).mono ?_
   rintro e w2 ⟨rfl,hw2⟩
   have O2:w2.ownsRow base 2 1 (.slice (some ⟨g,0,none⟩) len cap) len (cellsOf (fill xs k j 0)):=by rw[hw2];exact World.ownsRow.alloc HO.out _
   have B2:w.grownBy w2 (some g):=by rw[hw2];exact gtr HB.out (World.grownBy_alloc wr _ _)
   clear hw2 HO HB
   have hfl:(fill xs k j 0).length=len:=by rw[fill_length (by omega)];exact hx
   have c0:=World.ownsRow.cellAt O2 k (by omega)
   have c1:=World.ownsRow.frozenAt O2 k
   have S:=(World.ownsRow.stored O2 k (.int .i64 (pk 0 6 0 0 false false))).1
   have d0:=World.ownsRow.cellAt S (k+1) (by omega)
   have d1:=World.ownsRow.frozenAt S (k+1)
   have S2:=(World.ownsRow.stored S (k+1) (.int .i64 (j:Int))).1
   have e1:((cellsOf (fill xs k j 0)).set k (.int .i64 (pk 0 6 0 0 false false))).set (k+1) (.int .i64 (j:Int))=cellsOf (freeR xs k j):=by rw[←HFR.out];simp[cellsOf,List.map_set]
   rw[e1]at S2
   have HO:Hid _:=S2
   have HB:Hid _:=gtr (gtr B2 (gset w2 g k (.int .i64 (pk 0 6 0 0 false false)))) (gset _ g (k+1) (.int .i64 (j:Int)))
   obtain⟨y,hy'⟩:∃y,(cellsOf (fill xs k j 0))[k]? = some y:=⟨_,List.getElem?_eq_getElem (by simp[hfl];omega)⟩
   rw[hy']at c0
   obtain⟨y2,hy2⟩:∃y,((cellsOf (fill xs k j 0)).set k (.int .i64 (pk 0 6 0 0 false false)))[k+1]? = some y:=⟨_,List.getElem?_eq_getElem (by simp[hfl];omega)⟩
   rw[hy2]at d0
   clear O2 B2 S S2 e1 hy' hy2 hlt' hlt HFR
   go_wp2
   go_end0
   exact⟨⟨_,rfl⟩,HO.out,HB.out⟩
set_option maxHeartbeats 8000000 in
theorem l8Join_g {w:World} {base g len cap F T:Nat} {xs:List Int} {ps:List Nat} (hO:w.ownsRow base 2 1 (.slice (some ⟨g,0,none⟩) len cap) len (cellsOf xs)) (hx:xs.length=len) (hl:len≤1048576) (hg:base≤g) (hbw:base≤w.heap.size) (hT:T≤len) (hc:Chain xs T F ps) :
    Calls Tryz.prog 65 #[.slice (some ⟨g,0,none⟩) len cap,.int .i64 F,.int .i64 T] w fun e w'=>(∃v',e = .returned v')∧w'.ownsRow base 2 1 (.slice (some ⟨g,0,none⟩) len cap) len (cellsOf (runs xs ps none xs))∧w.grownBy w' (some g):=by
 have H0:=st_start hc (by omega:T≤xs.length)
 obtain⟨G,hG⟩:∃G,runs xs ps none xs=G:=⟨_,rfl⟩
 rw[hG]at H0
 rw[hG]
 have HS0:Hid _:=H0
 have HO0:Hid _:=hO
 have hF:=chain_le hc
 clear hG hc H0 hO
 go_enter Tryz.func65,Tryz.ntmps65
 go_wp2_with fail
 go_loopw [6] (fun i wr=>∃(k:Nat) (r:List Int),i = .int .i64 (k:Int)∧k≤T∧r.length=len∧(St2 xs T G r k∨∃n,St1 xs T G r k n)∧wr.ownsRow base 2 1 (.slice (some ⟨g,0,none⟩) len cap) len (cellsOf r)∧w.grownBy wr (some g)) (fun i wr=>(T-(intOf i).toNat)*(T+1)+(T-cellN wr g ((intOf i).toNat+1)))
 case atStart=>exact⟨F,xs,rfl,hF,hx,.inl HS0.out,HO0.out,World.grownBy.refl _ _⟩
 case round=>
  obtain⟨k,r,rfl,hk,hr,hS,Or,Br⟩:=hrel
  clear HS0 HO0
  have HOR:Hid _:=Or
  have HBR:Hid _:=Br
  have sr:=Br.size
  by_cases hlt:k<T
  ·have hlt':(k:Int)<(T:Int):=by omega
   have IR:IntsAt wr (.slice (some ⟨g,0,none⟩) len cap) r:=own_ints (own_row Or hr)
   have LC:=l4Chunk_any IR (by omega) k (by omega)
   have HLH:Hid (∀j,j<len→∃(s c h:Int) (p m:Bool),∀W,Below wr.heap.size wr W→Calls Tryz.prog 45 #[.slice (some ⟨g,0,none⟩) len cap,.int .i64 (j:Int)] W fun e w'=>e = .returned (hv s (uF (r.getD j 0)) c h p m)∧Below W.heap.size W w'):=fun j hj=>⟨_,_,_,_,_,fun W hW=>l4Head_any (intsAt_below IR hW) j (by omega)⟩
   have HLC:Hid (∀(j:Nat),j<len→∀W,Below wr.heap.size wr W→Calls Tryz.prog 111 #[.slice (some ⟨g,0,none⟩) len cap,.int .i64 (j:Int)] W fun e w'=>e = .returned (.int .i64 (chunk r j))∧Below W.heap.size W w'):=fun j hj W hW=>l4Chunk_any (intsAt_below IR hW) (by omega) j (by omega)
   obtain⟨s1,c1,g1,p1,m1,LH1⟩:=HLH.out k (by omega)
   clear IR
   by_cases hf:uF (xs.getD k 0)=6
   ·obtain⟨n,h1⟩:∃n,St1 xs T G r k n:=by
      rcases hS with h|h
      ·exact⟨_,st_free h hlt hf⟩
      ·exact h
    obtain⟨e1,e2,e3,e4,_,e6,e7,e8⟩:=st1_facts h1
    rw[e1]at LC
    rw[e2]at LH1
    have FF1:=field_format s1 6 c1 g1 p1 m1
    have HCN:Hid (cellN wr g (k+1)=n):=by
     show cellN wr g (k+1)=n
     rw[cellN_row Or hr (by omega),e8];simp
    by_cases hkn:k+n<T
    ·have hkn':(k:Int)+(n:Int)<(T:Int):=by omega
     obtain⟨s2,c2,g2,p2,m2,LH2⟩:=HLH.out (k+n) (by omega)
     simp only[Int.natCast_add]at LH2
     by_cases hf2:uF (xs.getD (k+n) 0)=6
     ·obtain⟨j1,j2,j3⟩:=st1_join h1 hkn hf2
      have ec:chunk r (k+n)=chunk xs (k+n):=e7.chunk (Nat.le_refl _)
      have eu:uF (r.getD (k+n) 0)=6:=by rw[e7.2 _ (Nat.le_refl _)];exact hf2
      obtain⟨c,hcc⟩:=Int.eq_ofNat_of_zero_le (chunk_le xs (k+n)).1
      have LC2:=HLC.out (k+n) (by omega)
      simp only[Int.natCast_add]at LC2
      rw[ec,hcc]at LC2
      rw[hcc,Int.toNat_natCast]at j2 j3
      rw[eu]at LH2
      have hc0:¬c=0:=fun e=>j1 (by rw[hcc,e];rfl)
      have FF2:=field_format s2 6 c2 g2 p2 m2
      have HJ3:Hid _:=j3
      have hfl:(freeR r k (n+c)).length=len:=by rw[freeR_length (by omega) (by omega)];exact hr
      have HLF:Hid (∀W,Below wr.heap.size wr W→Calls Tryz.prog 62 #[.slice (some ⟨g,0,none⟩) len cap,.int .i64 (k:Int),.int .i64 ((n:Int)+(c:Int))] W fun e w'=>(∃v',e = .returned v')∧w'.ownsRow base 2 1 (.slice (some ⟨g,0,none⟩) len cap) len (cellsOf (freeR r k (n+c)))∧W.grownBy w' (some g)):=fun W hW=>by
       have:=l4Free_g (k:=k) (n:=n+c) (rowI_below HOR.out hr hW) hr hl hg (Nat.le_trans hbw (Nat.le_trans sr hW.size)) (by omega) (by omega)
       simp only[Int.natCast_add]at this
       exact this
      have hnc:(n:Int)+(c:Int)≤T:=by omega
      clear h1 e1 e2 e7 e8 ec eu hcc j3 j1 Or Br HLC HLH hf hf2 hS
      go_wp2_with fail
      refine LC.mono ?_
      rintro e w2 ⟨rfl,b2⟩
      clear LC
      go_wp2_with (first
       |(go_at_call 45;refine (LH1 _ b2).mono ?_;clear LH1;rintro e w3 ⟨rfl,b3⟩;have b3':=b2.trans (b3.mono b2.size);clear b2 b3)
       |(go_at_call 45;refine (LH2 _ b3').mono ?_;clear LH2;rintro e w4 ⟨rfl,b4⟩;have b4':=b3'.trans (b4.mono b3'.size);clear b3' b4)
       |(go_at_call 111;refine (LC2 _ b4').mono ?_;clear LC2;rintro e w5 ⟨rfl,b5⟩;have b5':=b4'.trans (b5.mono b4'.size);clear b4' b5)
       |(go_at_call 62;refine (HLF.out _ b5').mono ?_;clear HLF;rintro e w6 ⟨⟨v6,rfl⟩,O6,B6⟩;have HO6:Hid _:=O6;have HB6:Hid (w.grownBy _ (some g)):=gtr (gtr HBR.out (gbel b5')) B6;clear O6 B6 b5'))
      refine⟨⟨k,freeR r k (n+c),rfl,hk,hfl,.inr ⟨n+c,HJ3.out⟩,HO6.out,HB6.out⟩,?_⟩
      have q1:cellN w6 g (k+1)=n+c:=by
       rw[cellN_row HO6.out hfl (by omega),freeR_getD (by omega) (by omega),if_neg (by omega),if_pos rfl]
       exact Int.toNat_natCast _
      simp only[intOf,Int.toNat_natCast]
      rw[q1,HCN.out]
      omega
     ·have eu:uF (r.getD (k+n) 0)=uF (xs.getD (k+n) 0):=by rw[e7.2 _ (Nat.le_refl _)]
      have h2:=st1_done h1 (fun h=>hf2 h.2)
      rw[eu]at LH2
      have HS2:Hid _:=h2
      clear h1 e1 e2 e7 e8 eu Or Br HLC HLH hf hS h2
      generalize uF (xs.getD (k+n) 0)=f2 at LH2 hf2
      have hf2':(f2==6)=false:=by simpa using hf2
      have FF2:=field_format s2 f2 c2 g2 p2 m2
      go_wp2_with fail
      refine LC.mono ?_
      rintro e w2 ⟨rfl,b2⟩
      clear LC
      go_wp2_with (first
       |(go_at_call 45;refine (LH1 _ b2).mono ?_;clear LH1;rintro e w3 ⟨rfl,b3⟩;have b3':=b2.trans (b3.mono b2.size);clear b2 b3)
       |(go_at_call 45;refine (LH2 _ b3').mono ?_;clear LH2;rintro e w4 ⟨rfl,b4⟩;have HB4:Hid (Below wr.heap.size wr w4):=b3'.trans (b4.mono b3'.size);clear b3' b4))
      exact⟨⟨k+n,r,by go_num,e4,hr,.inl HS2.out,rowI_below HOR.out hr HB4.out,gtr HBR.out (gbel HB4.out)⟩,by
       simp only[intOf,Int.toNat_natCast]
       rw[show ((k:Int)+(n:Int)).toNat=k+n by omega]
       exact meas_go hlt (by omega) (Nat.sub_le _ _)⟩
    ·have hkn':¬(k:Int)+(n:Int)<(T:Int):=by omega
     have h2:=st1_done h1 (fun h=>hkn h.1)
     have HS2:Hid _:=h2
     clear h1 e1 e2 e7 e8 Or Br HLC HLH hf hS h2
     go_wp2_with fail
     refine LC.mono ?_
     rintro e w2 ⟨rfl,b2⟩
     clear LC
     go_wp2_with (go_at_call 45;refine (LH1 _ b2).mono ?_;clear LH1;rintro e w3 ⟨rfl,b3⟩;have HB4:Hid (Below wr.heap.size wr w3):=b2.trans (b3.mono b2.size);clear b2 b3)
     exact⟨⟨k+n,r,by go_num,e4,hr,.inl HS2.out,rowI_below HOR.out hr HB4.out,gtr HBR.out (gbel HB4.out)⟩,by
      simp only[intOf,Int.toNat_natCast]
      rw[show ((k:Int)+(n:Int)).toNat=k+n by omega]
      exact meas_go hlt (by omega) (Nat.sub_le _ _)⟩
   ·have h2:St2 xs T G r k:=by
      rcases hS with h|⟨n,h⟩
      ·exact h
      ·obtain⟨_,_,_,_,hh,_⟩:=h;exact absurd hh hf
    obtain⟨e1,e2,e3,e4,_,_⟩:=st_facts h2 hlt
    have h3:=st_pass h2 hlt hf
    obtain⟨n,hn⟩:=Int.eq_ofNat_of_zero_le (chunk_le xs k).1
    rw[hn,Int.toNat_natCast]at e4 h3
    rw[e1,hn]at LC
    rw[e2]at LH1
    have hn0:0<n:=by
     rcases Nat.eq_zero_or_pos n with e|e
     ·exact absurd (by rw[hn,e];rfl) e3
     ·exact e
    have HS2:Hid _:=h3
    clear e1 e2 e3 h2 h3 hn Or Br HLC HLH hS
    generalize uF (xs.getD k 0)=f1 at LH1 hf
    have hf':(f1==6)=false:=by simpa using hf
    have FF1:=field_format s1 f1 c1 g1 p1 m1
    go_wp2_with fail
    refine LC.mono ?_
    rintro e w2 ⟨rfl,b2⟩
    clear LC
    go_wp2_with (go_at_call 45;refine (LH1 _ b2).mono ?_;clear LH1;rintro e w3 ⟨rfl,b3⟩;have HB4:Hid (Below wr.heap.size wr w3):=b2.trans (b3.mono b2.size);clear b2 b3)
    exact⟨⟨k+n,r,by go_num,e4,hr,.inl HS2.out,rowI_below HOR.out hr HB4.out,gtr HBR.out (gbel HB4.out)⟩,by
     simp only[intOf,Int.toNat_natCast]
     rw[show ((k:Int)+(n:Int)).toNat=k+n by omega]
     exact meas_go hlt hn0 (Nat.sub_le _ _)⟩
  ·have hlt':¬(k:Int)<(T:Int):=by omega
   have e:r=G:=by
    rcases hS with h|⟨n,h⟩
    ·exact st_end h hlt
    ·have:=st1_facts h;omega
   subst e
   clear Or Br hS
   go_wp2
   go_end0
   exact⟨⟨_,rfl⟩,HOR.out,HBR.out⟩
end Go.Proofs.YtocidankimefpaaGreatDoor.walks
