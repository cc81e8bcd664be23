/-
  Chapter 15 as lists: what is swept away, and that it may be walked then. Chapter 10 as the specification has it: Follow. Chapter 10 as the specification has it: HashOf and ClassOf.
-/
import Derived.Test.YtemlagfaaibenaaGreatM5
import Derived.Test.YtemlagfaaibenaaGreatM18
namespace Go.Proofs.YtemlagfaaibenaaGreat.hp
open Go.RowKit rows heads words walks
set_option maxRecDepth 100000
set_option linter.unusedVariables false
set_option linter.unusedSimpArgs false
theorem sz_at {s:Int} (h0:0≤s) (h1:s≤20):sz s=s+1+(s+1) % 2:=by unfold sz;rw[if_pos (by simp[inR,h0,h1])]
theorem chunk_sz {xs:List Int} {j:Nat} (h:chunk xs j≠0) (h6:uF (xs.getD j 0)≠6):chunk xs j=sz (uS (xs.getD j 0))∧0≤uS (xs.getD j 0)∧uS (xs.getD j 0)≤20∧j+(sz (uS (xs.getD j 0))).toNat≤xs.length:=by
 have hb:=chunk_bounds xs j
 have hu:=uS_bounds (xs.getD j 0)
 have e:chunk xs j=sz (uS (xs.getD j 0)):=by
  by_cases q1:(ok (xs.getD j 0) && !uM (xs.getD j 0))=true
  ·by_cases q2:(j:Int)+sz (uS (xs.getD j 0))≤xs.length∧(uF (xs.getD j 0)=7→isA (xs.getD (j+1) 0)=true)
   ·unfold chunk
    rw[if_pos q1,if_neg h6,if_pos q2]
   ·refine absurd ?_ h
    unfold chunk
    rw[if_pos q1,if_neg h6,if_neg q2]
  ·refine absurd ?_ h
   unfold chunk
   rw[if_neg q1]
 exact⟨e,hu.1,hu.2,by omega⟩
end Go.Proofs.YtemlagfaaibenaaGreat.hp
namespace Go.Proofs.YtemlagfaaibenaaGreat.hp
open Go.RowKit rows heads words walks region
set_option maxRecDepth 100000
set_option linter.unusedVariables false
set_option linter.unusedSimpArgs false
set_option maxHeartbeats 8000000 in
theorem l10Follow_any {w:World} {vr vo vm vs:Value} {H:Hp} (h:HpAt w vr vo vm vs H) {ps:List Int} (R:Rt H ps) (x:Int) (hx:wordIn H ps x=true) :
    Calls Tryz.prog 45 #[hpv H vr vo vm vs,.int .i64 x] w fun e w'=>e = .returned (.int .i64 (fol H x))∧Below w.heap.size w w':=by
 obtain⟨a1,c1,a2,c2,a3,c3,a4,c4,e1,e2,e3,e4⟩:=hpAt_slices h
 subst e1 e2 e3 e4
 have B0:Below w.heap.size w (w.alloc (hpb H (.slice a1 H.row.length c1) (.slice a2 H.roots.length c2) (.slice a3 H.mourned.length c3) (.slice a4 H.seen.length c4))):=(Below.refl _ _).alloc (Nat.le_refl _) _
 have HB0:Hid _:=B0
 have HT0:Hid _:=nine_new w H (.slice a1 H.row.length c1) (.slice a2 H.roots.length c2) (.slice a3 H.mourned.length c3) (.slice a4 H.seen.length c4)
 have HH:Hid _:=h
 obtain⟨A,hA⟩:∃A,fol H x=A:=⟨_,rfl⟩
 rw[hA]
 have HA:Hid _:=hA
 have HR:Hid _:=R
 have HX:Hid _:=hx
 clear h B0 hA R hx
 go_enter Tryz.func45,Tryz.ntmps45
 go_wp2_with fail
 go_loopw [1,5,6] (fun u _ _ wz=>∃y:Int,u = .int .i64 y∧wordIn H ps y=true∧fol H y=A∧Nine wz w.heap.size 27 (.int .i64 H.half) (.int .i64 H.old) (.slice a1 H.row.length c1) (.int .i64 H.side) (.int .i64 H.top) (.slice a2 H.roots.length c2) (.slice a3 H.mourned.length c3) (.slice a4 H.seen.length c4) (.int .i64 H.seed)∧Below w.heap.size w wz) (fun u _ _ _=>rk H (intOf u))
 case atStart=>exact⟨x,rfl,HX.out,HA.out,HT0.out,HB0.out⟩
 case round=>
  obtain⟨y,rfl,hy,hF,hT,hB⟩:=hrel
  clear HT0 HB0 HA HX
  obtain⟨⟨z0,z1,z2,z3,z4⟩,⟨z5,z6,z7,z8⟩,_⟩:=nine_cells hT
  have sr:=hB.size
  have SA:=sAddrOf_any y
  have HT:Hid _:=hT
  have HB:Hid _:=hB
  have HF:Hid _:=hF
  cases dA:isA y
  ·have HE:Hid (A=y):=by show _=_;rw[←hF];exact fol_stop (by unfold toNote;rw[dA];rfl)
   rw[dA]at SA
   clear hT hB hF hy dA
   go_wp2_with (go_at_call 44;refine (SA _).mono ?_;clear SA;rintro e w3 ⟨rfl,hw3⟩;rw[hw3];clear hw3 w3)
   go_ret
   exact⟨by rw[HE.out];rfl,HB.out⟩
  ·rw[dA]at SA
   obtain⟨hm,_⟩:=word_place hy dA
   obtain⟨j,hj,hjl,_⟩:=HR.out.plc _ hm
   have hI:=(hpAt_below HH.out hB).1
   have L4:=l4Head_any hI j hjl
   unfold hw at L4
   have HST:Hid (toNote H y=false→A=y):=fun e=>by rw[←hF];exact fol_stop e
   have HNT:Hid (toNote H y=true→_):=fun e=>HR.out.note hy e
   have htn:toNote H y=(uF (H.row.getD j 0)==7):=by unfold toNote ntH;rw[dA,hj,Int.toNat_natCast];rfl
   have hnw:noteW H y=H.row.getD (j+1) 0:=by unfold noteW;rw[hj,Int.toNat_natCast]
   simp only[hnw,hj,Int.toNat_natCast]at HNT
   rw[hj]at SA
   generalize uF (H.row.getD j 0)=f at *
   generalize uS (H.row.getD j 0)=s at *
   generalize uC (H.row.getD j 0)=c at *
   generalize uH (H.row.getD j 0)=g at *
   generalize uP (H.row.getD j 0)=p0 at *
   generalize uM (H.row.getD j 0)=m at *
   have FF:=field_format s f c g p0 m
   by_cases h7:f=7
   ·obtain⟨hj1,n2,n3,n4,n5⟩:=HNT.out (by rw[htn,h7];rfl)
    subst h7
    obtain⟨a',c',e',_,_,_,hcc⟩:=hI
    have e1:a1=a':=by injection e'
    subst e1
    obtain⟨b,off,rfl,hb,hcc⟩:=hcc (by omega)
    have x1:=hcc (j+1) hj1
    have HN:Hid (wordIn H ps (H.row.getD (j+1) 0)=true∧fol H (H.row.getD (j+1) 0)=A∧rk H (H.row.getD (j+1) 0)<rk H y):=⟨n2,by rw[←n4];exact hF,n5⟩
    generalize H.row.getD (j+1) 0=z at *
    have hlen:=HR.out.len
    have hj0:j≤1000:=by omega
    have hj1':((j:Int)+1).toNat=j+1:=by omega
    have hj2:(0:Int)≤(j:Int)+1:=by omega
    have hj3:(j:Int)+1<(H.row.length:Int):=by omega
    clear hT hB hF hy hcc e' htn hnw HST HNT n2 n3 n4 n5 dA hm hj hjl
    go_wp2_with (first
     |(go_at_call 44;refine (SA _).mono ?_;clear SA;rintro e w3 ⟨rfl,hw3⟩;rw[hw3];clear hw3 w3)
     |(go_at_call 46;refine L4.mono ?_;clear L4;rintro e w2 ⟨rfl,b2⟩;have T2:=nine_below HT.out b2;have x2:=(b2.cell (p:=⟨b,off+(j+1),none⟩) hb).trans x1;clear z0 z1 z2 z3 z4 z5 z6 z7 z8 x1;obtain⟨⟨z0,z1,z2,z3,z4⟩,⟨z5,z6,z7,z8⟩,_⟩:=nine_cells T2;have HT2:Hid _:=T2;have HB2:Hid _:=HB.out.trans (b2.mono sr);clear b2 T2))
    exact⟨⟨z,rfl,HN.out.1,HN.out.2.1,HT2.out,HB2.out⟩,HN.out.2.2⟩
   ·have h7':(f != 7)=true:=by simp[h7]
    have HE:Hid (A=y):=HST.out (by rw[htn];simpa using h7)
    clear hT hB hF hy htn hnw HST HNT dA hm hj hjl hI
    go_wp2_with (first
     |(go_at_call 44;refine (SA _).mono ?_;clear SA;rintro e w3 ⟨rfl,hw3⟩;rw[hw3];clear hw3 w3)
     |(go_at_call 46;refine L4.mono ?_;clear L4;rintro e w2 ⟨rfl,b2⟩;have HB2:Hid _:=HB.out.trans (b2.mono sr);clear b2))
    go_ret
    exact⟨by rw[HE.out];rfl,HB2.out⟩
def rootOk (H:Hp) (r:Int):Bool:=heapOk H&&inR 0 5 r&&isA (fol H (H.roots.getD r.toNat 0))
theorem l6RootH_any (x:Int) (w:World):Calls Tryz.prog 43 #[.int .i64 x] w fun e w'=>e = .returned (.bool (inR 0 5 x))∧w'=w:=by
 have L:=heads.l1In_any x 0 5 w
 generalize inR 0 5 x=b at *
 go_enter Tryz.func43,Tryz.ntmps43
 go_wp2_with (go_at_call 81;refine L.mono ?_;clear L;rintro e w3 ⟨rfl,hw3⟩;rw[hw3];clear hw3 w3)
 go_ret
 exact⟨rfl,rfl⟩
end Go.Proofs.YtemlagfaaibenaaGreat.hp
