/-
  Chapter 8 as the program has it: the runs of free chunks.
  Made from the template CoalI1.
-/
import Derived.Test.YtemlagfaaibenaaGreatM9
import Derived.Test.YtemlagfaaibenaaGreatM4
import Derived.Deep.AppendLies
namespace Go.Proofs.YtemlagfaaibenaaGreat.walks
open Go.RowKit rows heads words
set_option maxRecDepth 100000
theorem infoF:(Tryz.prog.info? 95).map (fun i=>(i.zero,i.size,i.bytes))=some (some (.agg #[.int .i64 0,.int .i64 0]),2,16):=by kernel_rfl
def OwnF (w:World) (base:Nat) (v:Value) (R:List Run):Prop:=w.ownsRow base 95 2 v R.length (cellsF R)
theorem ownF_below {w w':World} {base:Nat} {v:Value} {R:List Run} (h:OwnF w base v R) (hb:Below w.heap.size w w'):OwnF w' base v R:=by
 obtain⟨h0,⟨h1,h2⟩|⟨g,cap,cur,h1,hg,hh,hle,hm,hs,ht⟩⟩:=h
 ·exact⟨h0,.inl ⟨h1,h2⟩⟩
 ·exact⟨h0,.inr ⟨g,cap,cur,h1,hg,(hb.block g (lt_of_block hh)).trans hh,hle,hm,hs,ht⟩⟩
theorem ownF_slice {w:World} {base:Nat} {v:Value} {R:List Run} (h:OwnF w base v R):∃a c,v = .slice a R.length c:=by
 obtain⟨h0,⟨h1,h2⟩|⟨g,cap,cur,h1,_⟩⟩:=h
 ·exact⟨none,0,by rw[h1,h2]⟩
 ·exact⟨_,_,h1⟩
theorem ownF_form {w:World} {base:Nat} {a:Option Addr} {n c:Nat} {R:List Run} (h:OwnF w base (.slice a n c) R) (hp:0<R.length):∃g,a=some ⟨g,0,none⟩∧n=R.length∧base≤g∧g<w.heap.size:=by
 obtain⟨h0,⟨h1,h2⟩|⟨g,cap,cur,h1,hg,hh,_⟩⟩:=h
 ·omega
 ·injection h1 with e1 e2 e3
  exact⟨g,e1,e2,hg,lt_of_block hh⟩
theorem ownF_lt {w:World} {base:Nat} {v:Value} {R:List Run} (h:OwnF w base v R):∀k,v.ownBlock=some k→base≤k∧k<w.heap.size:=World.ownsRow.lt h
theorem ownF_nothing (w:World):OwnF (w.alloc (.cells #[] 95)) w.heap.size (.slice (some ⟨w.heap.size,0,none⟩) 0 0) []:=
 ⟨rfl,.inr ⟨w.heap.size,0,#[],rfl,Nat.le_refl _,heap_alloc_new _ _,Nat.le_refl _,by decide,rfl,rfl⟩⟩
theorem one_run (w:World) (a n:Nat):∀i u,(cellsF [(a,n)])[i]? = some u→(w.alloc (fcb a n)).cell? ((⟨w.heap.size,0,none⟩:Addr).add i)=some u:=World.news_of_block (heap_alloc_new w (fcb a n))
set_option maxHeartbeats 8000000 in
theorem runsOf_any {w:World} {v vl:Value} {xs:List Int} {ps:List Nat} (h:IntsAt w v xs) (hl:xs.length≤1048576) (ha:AllI xs) (hL:IntsAt w vl (ps.map fun p:Nat=>(p:Int))) (hpl:ps.length≤1048576) (hp:∀p ∈ ps,okAt xs p=true∧chunk xs p≠0) :
    Calls Tryz.prog 126 #[v,vl] w fun e w'=>∃v',e = .returned v'∧OwnF w' w.heap.size v' (runsT xs ps ps.length)∧Below w.heap.size w w':=by
 obtain⟨i0,hi,hz0,hz1,hz2⟩:=info_parts infoF
 have HI:Hid _:=And.intro hi (And.intro hz0 (And.intro hz1 hz2))
 have HP:Hid _:=hp
 have h':=h
 obtain⟨a,cap,rfl,hlc,hcm,_,_⟩:=h
 have hL':=hL
 obtain⟨la,lcap,rfl,llc,lcm,_,_⟩:=hL
 have HCH:Hid (∀(W:World) (p:Nat),Below w.heap.size w W→p ∈ ps→Calls Tryz.prog 128 #[.slice a xs.length cap,.int .i64 p] W fun e w'=>e = .returned (.int .i64 ((chunk xs p).toNat:Int))∧Below W.heap.size W w'):=fun W p hW hm=>by
  have:=implChunkAt W _ xs p (intsAt_below h' hW) hl ha ⟨by omega,by have:=(HP.out p hm).1;simp only[okAt,Bool.and_eq_true]at this;have:=atOk_true this.2;omega⟩
  rw[chunkAt_in (HP.out p hm).1,←chunk_nat xs p]at this
  exact this
 have HRI:Hid (∀k,InRow xs (runsT xs ps k)):=runsT_in fun p hm=>(HP.out p hm).2
 have HRL:Hid (∀k,(runsT xs ps k).length≤k):=runsT_length xs ps
 have B0:Below w.heap.size w (w.alloc (.cells #[] 95)):=(Below.refl _ _).alloc (Nat.le_refl _) _
 have HO0:Hid (OwnF (w.alloc (.cells #[] 95)) w.heap.size (.slice (some ⟨w.heap.size,0,none⟩) 0 0) (runsT xs ps 0)):=ownF_nothing w
 have HB0:Hid _:=B0
 have hll:(ps.map fun p:Nat=>(p:Int)).length=ps.length:=by simp
 rw[hll]
 rw[hll]at llc
 clear hi hz0 hz1 hz2 hp B0
 go_enter Tryz.func126,Tryz.ntmps126
 go_wp2_with fail
 go_loopw [5,13] (fun u i wr=>∃(k:Nat) (u0:Value),u0=u∧k≤ps.length∧i = .int .i64 (k:Int)∧OwnF wr w.heap.size u0 (runsT xs ps k)∧Below w.heap.size w wr) (fun _ i _=>ps.length-(intOf i).toNat)
 case atStart=>exact⟨0,_,rfl,Nat.zero_le _,rfl,HO0.out,HB0.out⟩
 case round=>
  obtain⟨k,u0,rfl,hk,rfl,hO,hB⟩:=hrel
  by_cases hlt:k<ps.length
  ·have hlt':(k:Int)<(ps.length:Int):=by omega
   obtain⟨la',lcap',e',_,_,_,hcy⟩:=intsAt_below hL' hB
   injection e' with e1 e2 e3
   subst e1 e3
   obtain⟨lb,loff,rfl,_,hcy⟩:=hcy (by omega)
   have c0:=hcy k (by omega)
   have hpk:ps.getD k 0 ∈ ps:=by rw[List.getD_eq_getElem?_getD,List.getElem?_eq_getElem hlt];exact List.getElem_mem hlt
   rw[show (ps.map fun p:Nat=>(p:Int)).getD k 0=((ps.getD k 0:Nat):Int) by rw[List.getD_eq_getElem?_getD,List.getElem?_map,List.getElem?_eq_getElem hlt,List.getD_eq_getElem?_getD (l:=ps),List.getElem?_eq_getElem hlt];rfl]at c0
   have HNX:Hid _:=runsT_next xs hlt
   have CH:=HCH.out _ _ hB hpk
   have hpb:=chunk_bounds xs (ps.getD k 0)
   have hp0:=(HP.out _ hpk).2
   have hRI:=HRI.out k
   have hRL:=HRL.out k
   generalize ps.getD k 0=p at *
   generalize hR:runsT xs ps k=R at *
   have hcl:(chunk xs p).toNat≤xs.length∧p+(chunk xs p).toNat≤xs.length:=by omega
   obtain⟨c,hc⟩:∃c,(chunk xs p).toNat=c:=⟨_,rfl⟩
   have HC:Hid _:=hc
   rw[hc]at CH hcl
   clear hR hcy e2 hpb hp0 hc
   have HO:Hid _:=hO
   have HB:Hid _:=hB
   have sr:=hB.size
   clear hO hB
   obtain⟨ua,uc,hus⟩:=ownF_slice HO.out
   subst hus
   go_wp2_with fail
   refine CH.mono ?_
   rintro e w2 ⟨rfl,b2⟩
   have O2:=ownF_below HO.out b2
   have B2:=HB.out.trans (b2.mono sr)
   have s2:=b2.size
   clear CH b2 c0 HO HB
   have HAP:Hid (∀(W:World),Below w2.heap.size w2 W→stepR xs R p=R++[(p,c)]→(∀(v':Value) (w5:World),w5.ownsRow w.heap.size 95 2 v' (R.length+1) (cellsF R++cellsF [(p,c)])→(W.alloc (fcb p c)).grownBy w5 (Value.slice ua R.length uc).ownBlock→(v'.ownBlock=(Value.slice ua R.length uc).ownBlock∨v'.ownBlock=some (W.alloc (fcb p c)).heap.size)→(∃a n c,v' = .slice a n c)∧OwnF w5 w.heap.size v' (runsT xs ps (k+1))∧Below w.heap.size w w5)):=fun W hW hst v' w5 h1 h2 h3=>by
    have B3:=B2.trans (hW.mono (Nat.le_trans sr s2))
    have on:OwnF w5 w.heap.size v' (R++[(p,c)]):=by
     unfold OwnF
     rw[cellsF_append,List.length_append]
     exact h1
    have gr:=grown_join (World.grownBy_alloc W (fcb p c) _) h2
    obtain⟨a',c',e'⟩:=ownF_slice on
    refine⟨⟨_,_,_,e'⟩,by rw[HNX.out,hst];exact on,B3.grown gr B3.size (fun j e=>(ownF_lt O2 j e).1)⟩
   have hql:R.length≤1048576:=by omega
   have HAPP:Hid (∀(W:World),Below w2.heap.size w2 W→OwnF (W.alloc (fcb p c)) w.heap.size (.slice ua R.length uc) R∧w.heap.size≤(W.alloc (fcb p c)).heap.size):=fun W hW=>⟨ownF_below O2 (hW.alloc hW.size _),by have:=hW.size;simp;omega⟩
   rcases List.eq_nil_or_concat R with hRn|⟨R',cc,hRc⟩
   ·have hneg:¬(R.length:Int)-1 ≥ 0:=by rw[hRn];decide
    have hst:stepR xs R p=R++[(p,c)]:=by rw[hRn,stepR_none,HC.out];rfl
    obtain⟨q1,q2⟩:=HAPP.out w2 (Below.refl _ _)
    have HOA:Hid _:=q1
    have HNW:Hid _:=one_run w2 p c
    have HST0:Hid _:=HAP.out w2 (Below.refl _ _) hst
    clear q1 hRn hst HAP HAPP hRI
    go_wp2_with (refine wpList_append_own_at _ rfl (.tmp 43) (.tmp 47) 129 rfl w.heap.size 95 i0 (.agg #[.int .i64 0,.int .i64 0]) 2 16 Tryz.underlying129 HI.out.1 HI.out.2.1 HI.out.2.2.1 HI.out.2.2.2 rfl (by decide) (.slice ua R.length uc) R.length (cellsF R) rfl HOA.out ⟨w2.heap.size,0,none⟩ 1 1 (cellsF [(p,c)]) rfl rfl HNW.out (cellsF_one _) (by unfold maxLen;omega) (by omega) q2 ?_;intro v' w5 hown hgrow _ hat;obtain⟨⟨va',vn',vc',rfl⟩,st⟩:=HST0.out v' w5 hown hgrow hat;have HST:Hid _:=st;clear st hown hgrow hat)
    exact⟨⟨k+1,_,rfl,by omega,by go_num,HST.out⟩,by simp[intOf];omega⟩
   ·obtain⟨a0,n0⟩:=cc
    rw[List.concat_eq_append]at hRc
    have hR1:R.length=R'.length+1:=by rw[hRc];simp
    obtain⟨g,rfl,_,hgb,hgl⟩:=ownF_form O2 (by omega)
    have hin:=hRI (a0,n0) (by rw[hRc];simp)
    have cg:=cellsF_get R R'.length (by omega)
    have hgd:R.getD R'.length (0,0)=(a0,n0):=by rw[hRc];simp[List.getD_eq_getElem?_getD]
    rw[hgd]at cg
    have x0:=(World.ownsRow.cellAt O2 (R'.length*2) (by omega)).trans cg.1
    have x1:=(World.ownsRow.cellAt O2 (R'.length*2+1) (by omega)).trans cg.2
    have EN:=end_any a0 n0 (by omega)
    have HR1:Hid _:=hR1
    have HRC:Hid _:=hRc
    have bE:Below w2.heap.size w2 (w2.alloc (fcb a0 n0)):=(Below.refl _ _).alloc (Nat.le_refl _) _
    by_cases he:a0+n0=p
    ·have heq:((a0:Int)+(n0:Int)==(p:Int))=true:=by
       rw[←he];simp
     have HGR:Hid (∀W,W=w2.alloc (fcb a0 n0)→W.cell? ⟨g,R'.length*2+1,none⟩=some (.int .i64 (n0:Int))∧W.frozen? ⟨g,R'.length*2+1,none⟩=false∧OwnF (W.setCell ⟨g,R'.length*2+1,none⟩ (.int .i64 ((n0:Int)+(c:Int)))) w.heap.size (.slice (some ⟨g,0,none⟩) (R'.length+1) uc) (runsT xs ps (k+1))∧Below w.heap.size w (W.setCell ⟨g,R'.length*2+1,none⟩ (.int .i64 ((n0:Int)+(c:Int))))):=fun W hW=>by
      rw[←hW]at bE
      have O3:=ownF_below O2 bE
      have S:=(World.ownsRow.stored O3 (R'.length*2+1) (.int .i64 ((n0:Int)+(c:Int)))).1
      refine⟨(bE.cell (p:=⟨g,R'.length*2+1,none⟩) hgl).trans x1,World.ownsRow.frozenAt O3 _,?_,(B2.trans (bE.mono (Nat.le_trans sr s2))).setCell (p:=⟨g,R'.length*2+1,none⟩) hgb _⟩
      rw[HNX.out,HRC.out,←he,stepR_grow,he,HC.out]
      have e3:(cellsF R).set (R'.length*2+1) (.int .i64 ((n0:Int)+(c:Int)))=cellsF (R'++[(a0,n0+c)]):=by
       rw[HRC.out,←cellsF_grow R' a0 n0 (n0+c)]
       rfl
      rw[e3]at S
      unfold OwnF
      have e4:(R'++[(a0,n0+c)]).length=R'.length+1:=by simp
      rw[e4]
      rw[HR1.out]at S
      exact S
     have hsum:(n0:Int)+(c:Int)≤1048576∧0≤(n0:Int)+(c:Int):=by omega
     clear HAP HAPP O2 B2 bE
     go_wp2_with (go_at_call 145;refine (EN _).mono ?_;clear EN;rintro e w3 ⟨rfl,hw3⟩;obtain⟨y1,y2,y3⟩:=HGR.out w3 hw3;have HST:Hid _:=y3;clear y3 hw3 HGR)
     exact⟨⟨k+1,_,rfl,by omega,by go_num,HST.out⟩,by simp[intOf];omega⟩
    ·have heq:((a0:Int)+(n0:Int)==(p:Int))=false:=by
       simp;omega
     have hst:stepR xs R p=R++[(p,c)]:=by rw[HRC.out,stepR_new xs R' he,HC.out]
     have HOA:Hid (World.ownsRow ((w2.alloc (fcb a0 n0)).alloc (fcb p c)) w.heap.size 95 2 (.slice (some ⟨g,0,none⟩) (R'.length+1) uc) (R'.length+1) (cellsF R)):=by
      have:=(HAPP.out _ bE).1
      unfold OwnF at this
      rw[HR1.out]at this
      exact this
     have q2:=(HAPP.out _ bE).2
     have HNW:Hid _:=one_run (w2.alloc (fcb a0 n0)) p c
     have HST0:Hid _:=HAP.out _ bE hst
     clear hst HAP HAPP O2 B2 bE
     go_wp2_with (first
      |(go_at_call 145;refine (EN _).mono ?_;clear EN;rintro e w3 ⟨rfl,hw3⟩;rw[←hw3]at HOA q2 HNW HST0;clear hw3)
      |(refine wpList_append_own_at _ rfl (.tmp 43) (.tmp 47) 129 rfl w.heap.size 95 i0 (.agg #[.int .i64 0,.int .i64 0]) 2 16 Tryz.underlying129 HI.out.1 HI.out.2.1 HI.out.2.2.1 HI.out.2.2.2 rfl (by decide) (.slice (some ⟨g,0,none⟩) (R'.length+1) uc) (R'.length+1) (cellsF R) rfl HOA.out ⟨w3.heap.size,0,none⟩ 1 1 (cellsF [(p,c)]) rfl rfl HNW.out (cellsF_one _) (by unfold maxLen;omega) (by omega) q2 ?_;intro v' w5 hown hgrow _ hat;rw[←HR1.out]at hown;obtain⟨⟨va',vn',vc',rfl⟩,st⟩:=HST0.out v' w5 hown hgrow hat;have HST:Hid _:=st;clear st hown hgrow hat))
     exact⟨⟨k+1,_,rfl,by omega,by go_num,HST.out⟩,by simp[intOf];omega⟩
  ·have e:k=ps.length:=by omega
   subst e
   have HF:Hid _:=hO
   have HB:Hid _:=hB
   have hlt':¬(ps.length:Int)<(ps.length:Int):=by omega
   clear hO hB
   go_wp2
   go_ret
   exact⟨_,rfl,HF.out,HB.out⟩
end Go.Proofs.YtemlagfaaibenaaGreat.walks
