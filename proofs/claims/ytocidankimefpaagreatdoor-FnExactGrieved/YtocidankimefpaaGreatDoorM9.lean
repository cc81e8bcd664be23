/- Chapter 4 as the specification has it: W -/
import Derived.Test.YtocidankimefpaaGreatDoorWalkS
import Derived.ProofKit
set_option linter.unusedVariables false
set_option maxRecDepth 100000
namespace Go.Proofs.YtocidankimefpaaGreatDoor.walks
open Go.RowKit rows heads words
theorem fR (w:World) (base:Nat) (hb:base≤w.heap.size):rows.Own (w.alloc (.cells #[] 2)) base (.slice (some ⟨w.heap.size,0,none⟩) 0 0) []:=
 ⟨rfl,.inr ⟨w.heap.size,0,#[],rfl,hb,heap_alloc_new w _,Nat.le_refl _,by decide,rfl,rfl⟩⟩
theorem yU {w:World} {base:Nat} {v:Value} {xs:List Int} {x:Int} (h:w.ownsRow base 2 1 v (xs.length+1) (cellsOf xs++[.int .i64 x])):rows.Own w base v (xs++[x]):=by
 unfold rows.Own;simpa [cellsOf] using h
theorem jD {w:World} {base:Nat} {v:Value} {xs:List Int} (h:rows.Own w base v xs):∀k,v.ownBlock=some k→base≤k∧k<w.heap.size:=World.ownsRow.lt h
theorem qD {base:Nat} {w w1 w2:World} {v:Value} (hb:Below base w w1) (hg:w1.grownBy w2 v.ownBlock) (hi:∀k,v.ownBlock=some k→base≤k∧k<w1.heap.size) (hs:base≤w1.heap.size):Below base w w2:=
 hb.grown hg hs (fun k e=>(hi k e).1)
set_option maxHeartbeats 4000000 in
theorem nL {w:World} {v:Value} {xs:List Int} (h:au w v xs) (hl:xs.length≤1048576) (F T:Nat) (ht:T≤xs.length) :
    Calls Tryz.prog 88 #[v,.int .i64 F,.int .i64 T] w fun e w'=>∃v',e = .returned (.tuple #[v',.bool (fV xs F T).isSome])∧rows.Own w' w.heap.size v' ((fV xs F T).getD [])∧Below w.heap.size w w':=by
 obtain⟨i0,hi,hz0,hz1,hz2⟩:=info_parts info;obtain⟨R,hR⟩:∃R,fV xs F T=R:=⟨_,rfl⟩
 rw[hR];go_enter Tryz.func88,Tryz.ntmps88;go_wp2_with fail;go_loopw [8,9] (fun u i wr=>∃(k:Nat) (acc:List Int) (v3:Value),v3=u∧i = .int .i64 (k:Int)∧acc.length≤k∧R=(fV xs k T).map (acc ++ ·)∧rows.Own wr w.heap.size u acc∧Below w.heap.size w wr) (fun _ i _=>T-(intOf i).toNat);case atStart=>exact⟨F,[],_,rfl,rfl,by simp,by rw[hR];cases R<;>simp,fR w _ (Nat.le_refl _),(Below.refl _ _).alloc (Nat.le_refl _) _⟩
 case round=>
  obtain⟨k,acc,v3,rfl,rfl,hk,hw,Or,Br⟩:=hrel;by_cases hlt:k<T
  ·have hlt':(k:Int)<(T:Int):=by omega
   have HW:Hid _:=hw;clear hw hR;go_wp2_with fail;refine (xX (aa h Br) hl k (by omega)).mono ?_;rintro e w2 ⟨rfl,b2⟩;have hcb:=aR xs k;have O2:=aB Or b2;have B2:=Br.trans (b2.mono Br.size);have I2:=jD O2;have sz2:=B2.size;clear Or Br b2;obtain⟨n,hc⟩:=Int.eq_ofNat_of_zero_le (show 0≤chunk xs k by omega);rw[hc]at hcb;rw[hc];have HC:Hid _:=hc;clear hc;by_cases hc0:(n:Int)=0
   ·have e:R=none:=by rw[HW.out,mN hlt (.inl (by rw[HC.out];exact hc0))];rfl
    have HE:Hid _:=e;clear HW e hcb;go_wp2;go_ret2;exact⟨_,by rw[HE.out];rfl,by rw[HE.out];exact fR w2 _ sz2,B2.alloc sz2 _⟩
   ·have hc0':((n:Int)==0)=false:=by simpa using hc0
    by_cases hc1:(k:Int)+(n:Int) > T
    ·have e:R=none:=by rw[HW.out,mN hlt (.inr (by rw[HC.out];exact hc1))];rfl
     have HE:Hid _:=e;clear HW e;go_wp2;go_ret2;exact⟨_,by rw[HE.out];rfl,by rw[HE.out];exact fR w2 _ sz2,B2.alloc sz2 _⟩
    ·have e:R=(fV xs (k+n) T).map ((acc++[(k:Int)]) ++ ·):=by
       have e1:k+(chunk xs k).toNat=k+n:=by rw[HC.out];simp
       rw[HW.out,nV hlt (by rw[HC.out];omega),e1];cases fV xs (k+n) T<;>simp
     have HE:Hid _:=e;clear HW HC e
     have NEWS:∀j u,[Value.int .i64 (k:Int)][j]? = some u→(w2.alloc (.cells #[.int .i64 (k:Int)] 2)).cell? ((⟨w2.heap.size,0,none⟩:Addr).add j)=some u:=by
      intro j u hj;match j,hj with
      |0,hj=>simp at hj;subst hj;simp[Addr.add]
     go_wp2_with (at_builtin;refine wpList_append_own _ rfl _ _ 22 rfl w.heap.size 2 i0 (.int .i64 0) 1 8 Tryz.underlying22 hi hz0 hz1 hz2 rfl (by decide) v3 acc.length (cellsOf acc) rfl (World.ownsRow.alloc O2 _) ⟨w2.heap.size,0,none⟩ 1 1 [.int .i64 (k:Int)] rfl rfl NEWS (ints_oneCell .i64 [(k:Int)]) (by unfold maxLen;omega) (by omega) (by simp;omega) ?_;intro v' w3 hown hgrow _);have O3:rows.Own w3 w.heap.size v' (acc++[(k:Int)]):=yU hown;have B3:Below w.heap.size w w3:=qD (B2.alloc sz2 _) hgrow (fun j e=>⟨(I2 j e).1,by have:=(I2 j e).2;simp;omega⟩) (by simp;omega);clear hown hgrow O2 I2 B2 NEWS;go_wp2;go_roundw;case rel=>exact⟨k+n,acc++[(k:Int)],v',rfl,by go_num,by simp;omega,HE,O3,B3⟩
     case measure=>simp[intOf];omega
  ·have hlt':¬(k:Int)<(T:Int):=by omega
   have e:R=some acc:=by rw[hw,qZ hlt];simp
   have HE:Hid _:=e;have HO:Hid _:=Or;have HB:Hid _:=Br;clear hw hR e Or Br;go_wp2;go_ret2;exact⟨_,by rw[HE.out];rfl,by rw[HE.out];exact HO,HB⟩
abbrev hw (n:Int):Value:=hv (uS n) (uF n) (uC n) (uH n) (uP n) (uM n)
theorem eD {w:World} {v:Value} {xs:List Int} (h:au w v xs) (k:Nat) (hk:k<xs.length) :
    Calls Tryz.prog 45 #[v,.int .i64 k] w fun e w'=>e = .returned (hw (xs.getD k 0))∧Below w.heap.size w w':=by
 obtain⟨a,cap,rfl,hlc,hcm,_,hc⟩:=h;obtain⟨b,off,rfl,hb,hcc⟩:=hc (by omega);have c0:=hcc k hk;clear hc hcc;generalize xs.getD k 0=x at *;unfold maxLen at hcm;have U:=bA x;unfold hw;generalize uS x=s at *;generalize uF x=f at *;generalize uC x=c at *;generalize uH x=g at *;generalize uP x=p at *;generalize uM x=m at *;go_enter Tryz.func45,Tryz.ntmps45;go_wp2_with fail;refine (U _).mono ?_;rintro e w1 ⟨rfl,B1⟩;have B0:Below w.heap.size w w1:=((Below.refl _ w).alloc (Nat.le_refl _) _).trans (B1.mono (by simp));have sz1:=B1.size;have T1:bK w1 w.heap.size 0 0 0 0 false false:=(B1.block w.heap.size (by simp)).trans (heap_alloc_new w _);obtain⟨k0,k1,k2,k3,k4,k5,fz⟩:=aO T1;have hlt:=lt_of_block T1;simp only[World.size_alloc]at sz1;clear B1 U;go_wp2;exact bodyPost_ret (wY rfl rfl (ot (jK T1 s f c g p m) _)) rfl ⟨rfl,(fk B0 (Nat.le_refl _) s f c g p m).alloc (by simp;omega) _⟩
theorem qE (s f c h:Int) (p m:Bool) (w:World) :
    Calls Tryz.prog 84 #[hv s f c h p m] w fun e w'=>e = .returned (.int .i64 (if f=7 then 1 else if f=6 then 0 else s))∧w'=w.alloc (hb s f c h p m):=by
 by_cases h7:f=7
 ·subst h7;go_enter Tryz.func84,Tryz.ntmps84;go_wp2;go_ret;exact⟨rfl,rfl⟩
 ·have h7':(f==7)=false:=by simpa using h7
  rw[if_neg h7];by_cases h6:f=6
  ·subst h6;go_enter Tryz.func84,Tryz.ntmps84;go_wp2;go_ret;exact⟨rfl,rfl⟩
  ·have h6':(f==6)=false:=by simpa using h6
   rw[if_neg h6];go_enter Tryz.func84,Tryz.ntmps84;go_wp2;go_ret;exact⟨rfl,rfl⟩
theorem jW (s f c h:Int) (p m:Bool) (w:World):(Instr.field 54 (hv s f c h p m) 1).run Tryz.prog w = .ok (.int .i64 f) w:=rfl
end Go.Proofs.YtocidankimefpaaGreatDoor.walks
namespace Go.Proofs.YtocidankimefpaaGreatDoor.hp
open Go.RowKit rows heads words walks
structure Hp where
 half:Int
 old:Int
 row:List Int
 side:Int
 top:Int
 roots:List Int
 a7:List Int
 seen:List Int
 seed:Int
abbrev hpv (H:Hp) (vr vo vm vs:Value):Value:=.agg #[.int .i64 H.half,.int .i64 H.old,vr,.int .i64 H.side,.int .i64 H.top,vo,vm,vs,.int .i64 H.seed]
abbrev hpb (H:Hp) (vr vo vm vs:Value):Obj:=.cells #[.int .i64 H.half,.int .i64 H.old,vr,.int .i64 H.side,.int .i64 H.top,vo,vm,vs,.int .i64 H.seed] 26
def eJ (w:World) (b:Nat) (t:TypeId) (c0 c1 c2 c3 c4 c5 c6 c7 c8:Value):Prop:=w.heap[b]? = some (.cells #[c0,c1,c2,c3,c4,c5,c6,c7,c8] t (0,0))
theorem ag {w:World} {b:Nat} {t:TypeId} {c0 c1 c2 c3 c4 c5 c6 c7 c8:Value} (h:eJ w b t c0 c1 c2 c3 c4 c5 c6 c7 c8) :
    (w.cell? ⟨b,0,none⟩=some c0∧w.cell? ⟨b,1,none⟩=some c1∧w.cell? ⟨b,2,none⟩=some c2∧w.cell? ⟨b,3,none⟩=some c3∧w.cell? ⟨b,4,none⟩=some c4)∧(w.cell? ⟨b,5,none⟩=some c5∧w.cell? ⟨b,6,none⟩=some c6∧w.cell? ⟨b,7,none⟩=some c7∧w.cell? ⟨b,8,none⟩=some c8)∧∀k,w.frozen? ⟨b,k,none⟩=false:=by
 unfold eJ at h;refine⟨⟨?_,?_,?_,?_,?_⟩,⟨?_,?_,?_,?_⟩,fun k => ?_⟩
 all_goals simp[World.cell?, World.frozen?, h]
theorem ai {w w':World} {b:Nat} {t:TypeId} {c0 c1 c2 c3 c4 c5 c6 c7 c8:Value} (h:eJ w b t c0 c1 c2 c3 c4 c5 c6 c7 c8) (hb:Below w.heap.size w w'):eJ w' b t c0 c1 c2 c3 c4 c5 c6 c7 c8:=(hb.block b (lt_of_block h)).trans h
theorem de (w:World) (H:Hp) (vr vo vm vs:Value):eJ (w.alloc (hpb H vr vo vm vs)) w.heap.size 26 (.int .i64 H.half) (.int .i64 H.old) vr (.int .i64 H.side) (.int .i64 H.top) vo vm vs (.int .i64 H.seed):=heap_alloc_new _ _
def eW (w:World) (vr vo vm vs:Value) (H:Hp):Prop:=au w vr H.row∧au w vo H.roots∧au w vm H.a7∧au w vs H.seen
theorem aD {w w':World} {vr vo vm vs:Value} {H:Hp} (h:eW w vr vo vm vs H) (hb:Below w.heap.size w w'):eW w' vr vo vm vs H:=⟨aa h.1 hb,aa h.2.1 hb,aa h.2.2.1 hb,aa h.2.2.2 hb⟩
theorem aK {w:World} {vr vo vm vs:Value} {H:Hp} (h:eW w vr vo vm vs H):∃a1 c1 a2 c2 a3 c3 a4 c4,vr = .slice a1 H.row.length c1∧vo = .slice a2 H.roots.length c2∧vm = .slice a3 H.a7.length c3∧vs = .slice a4 H.seen.length c4:=by
 obtain⟨⟨a1,c1,e1,_⟩,⟨a2,c2,e2,_⟩,⟨a3,c3,e3,_⟩,⟨a4,c4,e4,_⟩⟩:=h;exact⟨a1,c1,a2,c2,a3,c3,a4,c4,e1,e2,e3,e4⟩
def bI (H:Hp):Nat:=H.row.length+H.roots.length+H.a7.length+H.seen.length
def Plc (H:Hp) (ps:List Int):Prop:=∀p ∈ ps,∃j:Nat,p=j∧j<H.row.length
def blk (v:Value):List Nat:=v.ownBlock.toList
structure Ch (S:List Nat) (w w':World):Prop where
 os:w'.os=w.os
 tape:w'.tape=w.tape
 output:w'.output=w.output
 size:w.heap.size≤w'.heap.size
 block:∀k,k<w.heap.size→k ∉ S→w'.heap[k]? = w.heap[k]?
theorem Ch.refl (S:List Nat) (w:World):Ch S w w:=⟨rfl,rfl,rfl,Nat.le_refl _,fun _ _ _=>rfl⟩
theorem Ch.trans {S:List Nat} {a b c:World} (h:Ch S a b) (k:Ch S b c):Ch S a c:=
 ⟨k.os.trans h.os,k.tape.trans h.tape,k.output.trans h.output,Nat.le_trans h.size k.size,fun i hi hn=>(k.block i (Nat.lt_of_lt_of_le hi h.size) hn).trans (h.block i hi hn)⟩
theorem Ch.mono {S T:List Nat} {a b:World} (h:Ch S a b) (hs:∀k ∈ S,k ∈ T):Ch T a b:=⟨h.os,h.tape,h.output,h.size,fun k hk hn=>h.block k hk (fun e=>hn (hs k e))⟩
theorem cJ {a b:World} {v:Value} (h:a.grownBy b v.ownBlock):Ch (blk v) a b:=⟨h.os,h.tape,h.output,h.size,fun k hk hn=>h.block k hk (fun e=>hn (by unfold blk;rw[←e];simp))⟩
theorem bu {S:List Nat} {a b:World} (h:Below a.heap.size a b):Ch S a b:=⟨h.os,h.tape,h.output,h.size,fun k hk _=>h.block k hk⟩
theorem bn {S:List Nat} {B:Nat} {a b:World} (h:Ch S a b) (hb:B≤a.heap.size) (hs:∀k ∈ S,B≤k):Below B a b:=⟨h.os,h.tape,h.output,h.size,fun k hk=>h.block k (by omega) (fun e=>by have:=hs k e;omega)⟩
theorem aE {S:List Nat} {w w':World} {base size n:Nat} {t:TypeId} {v:Value} {xs:List Value} (h:w.ownsRow base t size v n xs) (hc:Ch S w w') (hd:∀k ∈ blk v,k ∉ S):w'.ownsRow base t size v n xs:=by
 obtain⟨h0,⟨h1,h2⟩|⟨g,cap,cur,h1,hg,hh,hle,hm,hs,ht⟩⟩:=h
 ·exact⟨h0,.inl ⟨h1,h2⟩⟩
 ·refine⟨h0,.inr ⟨g,cap,cur,h1,hg,(hc.block g (lt_of_block hh) (hd g ?_)).trans hh,hle,hm,hs,ht⟩⟩
  rw[h1];simp[blk,Value.ownBlock]
theorem aM {w:World} {base n size:Nat} {t:TypeId} {v:Value} {xs:List Value} (h:w.ownsRow base t size v n xs):∀k ∈ blk v,base≤k∧k<w.heap.size:=fun k hk=>World.ownsRow.lt h k (by unfold blk at hk;exact Option.mem_toList.1 hk)
theorem aH (Y:World) (b k:Nat) (u:Value):Ch [b] Y (Y.setCell ⟨b,k,none⟩ u):=⟨rfl,rfl,rfl,by simp,fun j _ hn=>Below.heap_setCell Y _ u j (fun e=>hn (by simp[e]))⟩
theorem br {w w':World} (h:∃n,w'=w.drewN n):Below w.heap.size w w':=by
 obtain⟨n,rfl⟩:=h;exact⟨rfl,rfl,rfl,Nat.le_refl _,fun _ _=>rfl⟩
theorem bl {w:World} {v:Value} {xs:List Int} (h:au w v xs):∃a n c,v = .slice a n c:=by
 obtain⟨a,c,e,_⟩:=h;exact⟨a,_,c,e⟩
def lK (vr vo vm vs:Value):List Nat:=blk vr++blk vo++blk vm++blk vs
def rR (w:World) (base:Nat) (vr vo vm vs:Value) (H:Hp):Prop:=(rows.Own w base vr H.row∧rows.Own w base vo H.roots∧rows.Own w base vm H.a7∧rows.Own w base vs H.seen)∧(lK vr vo vm vs).Nodup
theorem dD {w:World} {base:Nat} {vr vo vm vs:Value} {H:Hp} (h:rR w base vr vo vm vs H):eW w vr vo vm vs H:=⟨aj h.1.1,aj h.1.2.1,aj h.1.2.2.1,aj h.1.2.2.2⟩
theorem aV {w w':World} {base:Nat} {vr vo vm vs:Value} {H:Hp} (h:rR w base vr vo vm vs H) (hb:Below w.heap.size w w'):rR w' base vr vo vm vs H:=⟨⟨aB h.1.1 hb,aB h.1.2.1 hb,aB h.1.2.2.1 hb,aB h.1.2.2.2 hb⟩,h.2⟩
theorem qF {w:World} {base base':Nat} {vr vo vm vs:Value} {H:Hp} (h:rR w base vr vo vm vs H) (hb:base'≤base):rR w base' vr vo vm vs H:=⟨⟨cL h.1.1 hb,cL h.1.2.1 hb,cL h.1.2.2.1 hb,cL h.1.2.2.2 hb⟩,h.2⟩
theorem dV {vr vo vm vs:Value}:(∀k ∈ blk vr,k ∈ lK vr vo vm vs)∧(∀k ∈ blk vo,k ∈ lK vr vo vm vs)∧(∀k ∈ blk vm,k ∈ lK vr vo vm vs)∧∀k ∈ blk vs,k ∈ lK vr vo vm vs:=by
 unfold lK;simp only[List.mem_append];exact⟨fun k h => .inl (.inl (.inl h)),fun k h => .inl (.inl (.inr h)),fun k h => .inl (.inr h),fun k h => .inr h⟩
theorem iH {w:World} {base:Nat} {vr vo vm vs:Value} {H:Hp} (h:rR w base vr vo vm vs H):∀k ∈ lK vr vo vm vs,base≤k∧k<w.heap.size:=by
 intro k hk;simp only[lK,List.mem_append]at hk;rcases hk with ((hk|hk)|hk)|hk
 ·exact aM h.1.1 k hk
 ·exact aM h.1.2.1 k hk
 ·exact aM h.1.2.2.1 k hk
 ·exact aM h.1.2.2.2 k hk
theorem lC {S:List Nat} {w w':World} {base:Nat} {vr vo vm vs:Value} {H:Hp} (h:rR w base vr vo vm vs H) (hc:Ch S w w') (hd:∀k ∈ lK vr vo vm vs,k ∉ S):rR w' base vr vo vm vs H:=by
 obtain⟨i1,i2,i3,i4⟩:= @dV vr vo vm vs;exact⟨⟨aE h.1.1 hc (fun k hk=>hd k (i1 k hk)),aE h.1.2.1 hc (fun k hk=>hd k (i2 k hk)),aE h.1.2.2.1 hc (fun k hk=>hd k (i3 k hk)),aE h.1.2.2.2 hc (fun k hk=>hd k (i4 k hk))⟩,h.2⟩
theorem sJ {vr vo vm vs:Value} (h:(lK vr vo vm vs).Nodup):((∀k ∈ blk vr,k ∉ blk vo)∧(∀k ∈ blk vr,k ∉ blk vm)∧∀k ∈ blk vr,k ∉ blk vs)∧((∀k ∈ blk vo,k ∉ blk vm)∧∀k ∈ blk vo,k ∉ blk vs)∧∀k ∈ blk vm,k ∉ blk vs:=by
 unfold lK at h;rw[List.nodup_append,List.nodup_append,List.nodup_append]at h;obtain⟨⟨⟨_,_,h1⟩,_,h2⟩,_,h3⟩:=h;refine⟨⟨fun k hk e=>h1 k hk k e rfl,fun k hk e=>h2 k (List.mem_append.2 (.inl hk)) k e rfl,fun k hk e=>h3 k (List.mem_append.2 (.inl (List.mem_append.2 (.inl hk)))) k e rfl⟩,⟨fun k hk e=>h2 k (List.mem_append.2 (.inr hk)) k e rfl,fun k hk e=>h3 k (List.mem_append.2 (.inl (List.mem_append.2 (.inr hk)))) k e rfl⟩,fun k hk e=>h3 k (List.mem_append.2 (.inr hk)) k e rfl⟩
theorem fS (w:World) (t:TypeId) (c0 c1 c2 c3 c4 c5 c6 c7 c8:Value):eJ (w.alloc (.cells #[c0,c1,c2,c3,c4,c5,c6,c7,c8] t)) w.heap.size t c0 c1 c2 c3 c4 c5 c6 c7 c8:=heap_alloc_new w _
theorem cx {S:List Nat} {w w':World} {b:Nat} {t:TypeId} {c0 c1 c2 c3 c4 c5 c6 c7 c8:Value} (h:eJ w b t c0 c1 c2 c3 c4 c5 c6 c7 c8) (hc:Ch S w w') (hb:b ∉ S):eJ w' b t c0 c1 c2 c3 c4 c5 c6 c7 c8:=(hc.block b (lt_of_block h) hb).trans h
theorem bL {w:World} {b:Nat} {c:Array Value} {t:TypeId} (h:w.heap[b]? = some (.cells c t (0,0))) (k:Nat) (u:Value) :
    (w.setCell ⟨b,k,none⟩ u).heap[b]? = some (.cells (c.setIfInBounds k u) t (0,0)):=lY h k u
theorem Cw {w:World} {b:Nat} {t:TypeId} {c0 c1 c2 c3 c4 c5 c6 c7 c8:Value} (h:eJ w b t c0 c1 c2 c3 c4 c5 c6 c7 c8) (u:Value):eJ (w.setCell ⟨b,0,none⟩ u) b t u c1 c2 c3 c4 c5 c6 c7 c8:=(bL h 0 u).trans (by simp)
theorem Cx {w:World} {b:Nat} {t:TypeId} {c0 c1 c2 c3 c4 c5 c6 c7 c8:Value} (h:eJ w b t c0 c1 c2 c3 c4 c5 c6 c7 c8) (u:Value):eJ (w.setCell ⟨b,1,none⟩ u) b t c0 u c2 c3 c4 c5 c6 c7 c8:=(bL h 1 u).trans (by simp)
theorem mw {w:World} {b:Nat} {t:TypeId} {c0 c1 c2 c3 c4 c5 c6 c7 c8:Value} (h:eJ w b t c0 c1 c2 c3 c4 c5 c6 c7 c8) (u:Value):eJ (w.setCell ⟨b,2,none⟩ u) b t c0 c1 u c3 c4 c5 c6 c7 c8:=(bL h 2 u).trans (by simp)
theorem vw {w:World} {b:Nat} {t:TypeId} {c0 c1 c2 c3 c4 c5 c6 c7 c8:Value} (h:eJ w b t c0 c1 c2 c3 c4 c5 c6 c7 c8) (u:Value):eJ (w.setCell ⟨b,3,none⟩ u) b t c0 c1 c2 u c4 c5 c6 c7 c8:=(bL h 3 u).trans (by simp)
theorem vx {w:World} {b:Nat} {t:TypeId} {c0 c1 c2 c3 c4 c5 c6 c7 c8:Value} (h:eJ w b t c0 c1 c2 c3 c4 c5 c6 c7 c8) (u:Value):eJ (w.setCell ⟨b,4,none⟩ u) b t c0 c1 c2 c3 u c5 c6 c7 c8:=(bL h 4 u).trans (by simp)
theorem mz {w:World} {b:Nat} {t:TypeId} {c0 c1 c2 c3 c4 c5 c6 c7 c8:Value} (h:eJ w b t c0 c1 c2 c3 c4 c5 c6 c7 c8) (u:Value):eJ (w.setCell ⟨b,5,none⟩ u) b t c0 c1 c2 c3 c4 u c6 c7 c8:=(bL h 5 u).trans (by simp)
theorem jX {w:World} {b:Nat} {t:TypeId} {c0 c1 c2 c3 c4 c5 c6 c7 c8:Value} (h:eJ w b t c0 c1 c2 c3 c4 c5 c6 c7 c8) (u:Value):eJ (w.setCell ⟨b,6,none⟩ u) b t c0 c1 c2 c3 c4 c5 u c7 c8:=(bL h 6 u).trans (by simp)
theorem qG {w:World} {b:Nat} {t:TypeId} {c0 c1 c2 c3 c4 c5 c6 c7 c8:Value} (h:eJ w b t c0 c1 c2 c3 c4 c5 c6 c7 c8) (u:Value):eJ (w.setCell ⟨b,7,none⟩ u) b t c0 c1 c2 c3 c4 c5 c6 u c8:=(bL h 7 u).trans (by simp)
theorem Cy {w:World} {b:Nat} {t:TypeId} {c0 c1 c2 c3 c4 c5 c6 c7 c8:Value} (h:eJ w b t c0 c1 c2 c3 c4 c5 c6 c7 c8) (u:Value):eJ (w.setCell ⟨b,8,none⟩ u) b t c0 c1 c2 c3 c4 c5 c6 c7 u:=(bL h 8 u).trans (by simp)
theorem fB {w:World} {b:Nat} {t:TypeId} {c0 c1 c2 c3 c4 c5 c6 c7 c8:Value} (h:eJ w b t c0 c1 c2 c3 c4 c5 c6 c7 c8) (u0 u1 u2 u3 u4 u5 u6 u7 u8:Value):eJ (((((((((w.setCell ⟨b,0,none⟩ u0).setCell ⟨b,1,none⟩ u1).setCell ⟨b,2,none⟩ u2).setCell ⟨b,3,none⟩ u3).setCell ⟨b,4,none⟩ u4).setCell ⟨b,5,none⟩ u5).setCell ⟨b,6,none⟩ u6).setCell ⟨b,7,none⟩ u7).setCell ⟨b,8,none⟩ u8) b t u0 u1 u2 u3 u4 u5 u6 u7 u8:=(Cy (qG (jX (mz (vx (vw (mw (Cx (Cw h _) _) _) _) _) _) _) _) _)
theorem dF {n:Nat} {w X:World} {b:Nat} (hB:Below n w X) (hb:n≤b) (u0 u1 u2 u3 u4 u5 u6 u7 u8:Value):Below n w (((((((((X.setCell ⟨b,0,none⟩ u0).setCell ⟨b,1,none⟩ u1).setCell ⟨b,2,none⟩ u2).setCell ⟨b,3,none⟩ u3).setCell ⟨b,4,none⟩ u4).setCell ⟨b,5,none⟩ u5).setCell ⟨b,6,none⟩ u6).setCell ⟨b,7,none⟩ u7).setCell ⟨b,8,none⟩ u8):=(Below.setCell (Below.setCell (Below.setCell (Below.setCell (Below.setCell (Below.setCell (Below.setCell (Below.setCell (Below.setCell hB (p:=⟨b,0,none⟩) hb _) (p:=⟨b,1,none⟩) hb _) (p:=⟨b,2,none⟩) hb _) (p:=⟨b,3,none⟩) hb _) (p:=⟨b,4,none⟩) hb _) (p:=⟨b,5,none⟩) hb _) (p:=⟨b,6,none⟩) hb _) (p:=⟨b,7,none⟩) hb _) (p:=⟨b,8,none⟩) hb _)
theorem c9 {X:World} {b:Nat} (u0 u1 u2 u3 u4 u5 u6 u7 u8:Value):Ch [b] X (((((((((X.setCell ⟨b,0,none⟩ u0).setCell ⟨b,1,none⟩ u1).setCell ⟨b,2,none⟩ u2).setCell ⟨b,3,none⟩ u3).setCell ⟨b,4,none⟩ u4).setCell ⟨b,5,none⟩ u5).setCell ⟨b,6,none⟩ u6).setCell ⟨b,7,none⟩ u7).setCell ⟨b,8,none⟩ u8):=(Ch.trans (Ch.trans (Ch.trans (Ch.trans (Ch.trans (Ch.trans (Ch.trans (Ch.trans (aH _ _ _ _) (aH _ _ _ _)) (aH _ _ _ _)) (aH _ _ _ _)) (aH _ _ _ _)) (aH _ _ _ _)) (aH _ _ _ _)) (aH _ _ _ _)) (aH _ _ _ _))
theorem gK {fn:Func} {tmps:Array Value} {X:World} {j b:Nat} {a1 a2 a3 a4:Option Addr} {n1 d1 n2 d2 n3 d3 n4 d4:Nat} {x0 x1 x3 x4 x8:Int} (hf:fn.results=#[.cell j 26]) (h2:tmps[j]? = some (.pointer (some ⟨b,0,none⟩))) (hX:eJ X b 26 (.int .i64 x0) (.int .i64 x1) (.slice a1 n1 d1) (.int .i64 x3) (.int .i64 x4) (.slice a2 n2 d2) (.slice a3 n3 d3) (.slice a4 n4 d4) (.int .i64 x8)) :
    (results fn tmps).run Tryz.prog X = .ok (.agg #[.int .i64 x0,.int .i64 x1,.slice a1 n1 d1,.int .i64 x3,.int .i64 x4,.slice a2 n2 d2,.slice a3 n3 d3,.slice a4 n4 d4,.int .i64 x8]) X:=by
 obtain⟨⟨k0,k1,k2,k3,k4⟩,⟨k5,k6,k7,k8⟩,_⟩:=ag hX;clear hX;simp[results,hf,h2,go_sem,k0,k1,k2,k3,k4,k5,k6,k7,k8]
end Go.Proofs.YtocidankimefpaaGreatDoor.hp
namespace Go.Proofs.YtocidankimefpaaGreatDoor.hp
open Go.ChangeShapes Go.WideShapes Go.ChangeAt Go.RowKit rows walks
def HpI (H:Hp):Prop:=(I64 H.half∧I64 H.old∧I64 H.side∧I64 H.top∧I64 H.seed)∧iO H.row∧iO H.roots∧iO H.a7∧iO H.seen
section
variable {H:Type} {enc:TypeId×Value→H} {P:Program} {w:World} {base:Nat} {held:Bool}
theorem Jf {α:Type} {cs:List α} (h:cs.length=9):∃c0 c1 c2 c3 c4 c5 c6 c7 c8,cs=[c0,c1,c2,c3,c4,c5,c6,c7,c8]:=by
 match cs,h with
 | [c0,c1,c2,c3,c4,c5,c6,c7,c8],_=>exact⟨c0,c1,c2,c3,c4,c5,c6,c7,c8,rfl⟩
theorem I6 {α:Type} {cs:Array α} (h:cs.size=9):∃c0 c1 c2 c3 c4 c5 c6 c7 c8,cs=#[c0,c1,c2,c3,c4,c5,c6,c7,c8]:=by
 obtain⟨l⟩:=cs;match l,h with
 | [c0,c1,c2,c3,c4,c5,c6,c7,c8],_=>exact⟨c0,c1,c2,c3,c4,c5,c6,c7,c8,rfl⟩
theorem mA {t e:TypeId} {fuel:Nat} {v:Value} {x:DataW H×List MemPlace}
    (ht:P.underlying t=some (.slice e)) (he:P.underlying e=some (.int .i64)) (hc:P.cellsOf e=1)
    (h:DataW.trod enc P w base (fun _=>true) held fuel t [v]=some x):∃xs:List Int,au w v xs∧iO xs:=by
 rcases open_ints ht he hc h with ⟨hcs,_⟩|⟨x,l,c,zs,hcs,_,hl,hm,hz,_,hcell,hwz⟩
 ·obtain rfl:v = .slice none 0 0:=by simpa using hcs
  obtain⟨xs,_,hx,ha⟩:=oN (k:=.i64) (w:=w) (a:=none) (len:=0) (cap:=0) (zs:=[]) rfl (.inl ⟨rfl,rfl,rfl,rfl⟩);exact⟨xs,hx,ha⟩
 ·obtain rfl:v = .slice (some x) l c:=by simpa using hcs
  obtain⟨xs,_,hx,ha⟩:=oN (k:=.i64) (w:=w) (a:=some x) (len:=l) (cap:=c) (zs:=zs) rfl (.inr ⟨_,rfl,hl,hm,by simpa using hz,hcell,hwz⟩);exact⟨xs,hx,ha⟩
theorem Cz {r:Reach} {b0:Nat} {t ti tl:TypeId} {k0 k1 k2 k3 k4 k5 k6 k7 k8:Field} {v:Value} {d:DataW H} {p:List MemPlace}
    (hs:P.underlying t=some (.struct #[k0,k1,k2,k3,k4,k5,k6,k7,k8])) (hC:P.cellsOf t=9) (ki:P.cellsOf ti=1) (kl:P.cellsOf tl=1)
    (n0:k0.offset=0) (n1:k1.offset=1) (n2:k2.offset=2) (n3:k3.offset=3) (n4:k4.offset=4) (n5:k5.offset=5) (n6:k6.offset=6) (n7:k7.offset=7) (n8:k8.offset=8)
    (l0:k0.type=ti) (l1:k1.type=ti) (l2:k2.type=tl) (l3:k3.type=ti) (l4:k4.type=ti) (l5:k5.type=tl) (l6:k6.type=tl) (l7:k7.type=tl) (l8:k8.type=ti)
    (hi:P.underlying ti=some (.int .i64)) (hl:P.underlying tl=some (.slice ti))
    (hv:Value.okWide P w r b0 t v) (h:DataW.Trod enc P w base (fun _=>true) held t v d p) :
    ∃(vr vo vm vs:Value) (G:Hp),v=hpv G vr vo vm vs∧eW w vr vo vm vs G∧HpI G:=by
 obtain⟨cs,rfl,hsz⟩:=okWide_struct hs hv;obtain⟨c0,c1,c2,c3,c4,c5,c6,c7,c8,rfl⟩:=I6 (hsz.trans hC);obtain⟨fuel,hf⟩:=h;obtain⟨xs,n,_,hx,_,hlen,hg⟩:=DataW.trod_struct hs hf;obtain⟨z0,z1,z2,z3,z4,z5,z6,z7,z8,rfl⟩:=Jf (show xs.length=9 from hlen);have q0:DataW.trod enc P w base (fun _=>true) held n ti [c0]=some z0:=by simpa [Value.cells,n0,ki,l0] using hg 0 k0 rfl
 have q1:DataW.trod enc P w base (fun _=>true) held n ti [c1]=some z1:=by simpa [Value.cells,n1,ki,l1] using hg 1 k1 rfl
 have q2:DataW.trod enc P w base (fun _=>true) held n tl [c2]=some z2:=by simpa [Value.cells,n2,kl,l2] using hg 2 k2 rfl
 have q3:DataW.trod enc P w base (fun _=>true) held n ti [c3]=some z3:=by simpa [Value.cells,n3,ki,l3] using hg 3 k3 rfl
 have q4:DataW.trod enc P w base (fun _=>true) held n ti [c4]=some z4:=by simpa [Value.cells,n4,ki,l4] using hg 4 k4 rfl
 have q5:DataW.trod enc P w base (fun _=>true) held n tl [c5]=some z5:=by simpa [Value.cells,n5,kl,l5] using hg 5 k5 rfl
 have q6:DataW.trod enc P w base (fun _=>true) held n tl [c6]=some z6:=by simpa [Value.cells,n6,kl,l6] using hg 6 k6 rfl
 have q7:DataW.trod enc P w base (fun _=>true) held n tl [c7]=some z7:=by simpa [Value.cells,n7,kl,l7] using hg 7 k7 rfl
 have q8:DataW.trod enc P w base (fun _=>true) held n ti [c8]=some z8:=by simpa [Value.cells,n8,ki,l8] using hg 8 k8 rfl
 obtain⟨x0,e0,_,w0⟩:=DataW.trod_int hi q0;obtain⟨x1,e1,_,w1⟩:=DataW.trod_int hi q1;obtain⟨x3,e3,_,w3⟩:=DataW.trod_int hi q3;obtain⟨x4,e4,_,w4⟩:=DataW.trod_int hi q4;obtain⟨x8,e8,_,w8⟩:=DataW.trod_int hi q8;simp only[List.cons.injEq,and_true]at e0 e1 e3 e4 e8;subst e0 e1 e3 e4 e8;obtain⟨y2,r2,s2⟩:=mA hl hi ki q2;obtain⟨y5,r5,s5⟩:=mA hl hi ki q5;obtain⟨y6,r6,s6⟩:=mA hl hi ki q6;obtain⟨y7,r7,s7⟩:=mA hl hi ki q7;exact⟨c2,c5,c6,c7,⟨x0,x1,y2,x3,x4,y5,y6,y7,x8⟩,rfl,⟨r2,r5,r6,r7⟩,⟨iT w0,iT w1,iT w3,iT w4,iT w8⟩,s2,s5,s6,s7⟩
end
end Go.Proofs.YtocidankimefpaaGreatDoor.hp
namespace Go.Proofs.YtocidankimefpaaGreatDoor.hp
open Go.RowKit rows heads words walks
theorem pD {H:Hp} (h:bI H≤1048576):H.row.length≤1048576∧H.roots.length≤1048576∧H.a7.length≤1048576∧H.seen.length≤1048576:=by
 unfold bI at h;omega
theorem iI {S:List Nat} {w w':World} {b:Nat} {xs:List Int} (h:Full w b xs) (hc:Ch S w w') (hb:b ∉ S):Full w' b xs:=(hc.block b (lt_of_block h) hb).trans h
theorem iW {w w':World} {b:Nat} {xs:List Int} (h:Full w b xs) (hb:Below w.heap.size w w'):Full w' b xs:=(hb.block b (lt_of_block h)).trans h
set_option maxHeartbeats 8000000 in
theorem kL {w:World} {vr vo vm vs:Value} {H:Hp} (h:eW w vr vo vm vs H) (hs:bI H≤1048576) :
    Calls Tryz.prog 7 #[hpv H vr vo vm vs] w fun e w'=>∃(vr' vo' vm' vs':Value),e = .returned (hpv H vr' vo' vm' vs')∧rR w' w.heap.size vr' vo' vm' vs' H∧Below w.heap.size w w':=by
 obtain⟨l1,l2,l3,l4⟩:=pD hs;obtain⟨a1,c1,a2,c2,a3,c3,a4,c4,e1,e2,e3,e4⟩:=aK h;subst e1 e2 e3 e4;obtain⟨X,hX⟩:∃X,X=((w.alloc (.cells #[.int .i64 H.half,.int .i64 H.old,.slice a1 H.row.length c1,.int .i64 H.side,.int .i64 H.top,.slice a2 H.roots.length c2,.slice a3 H.a7.length c3,.slice a4 H.seen.length c4,.int .i64 H.seed] 24)).alloc (.cells #[.int .i64 0,.int .i64 0,.slice none 0 0,.int .i64 0,.int .i64 0,.slice none 0 0,.slice none 0 0,.slice none 0 0,.int .i64 0] 26)).alloc (.cells #[.int .i64 H.half,.int .i64 H.old,.slice none 0 0,.int .i64 0,.int .i64 0,.slice none 0 0,.slice none 0 0,.slice none 0 0,.int .i64 0] 26):=⟨_,rfl⟩
 have HX:Hid _:=hX
 have BX:Below w.heap.size w X:=by
  rw[hX];exact (((Below.refl _ w).alloc (Nat.le_refl _) _).alloc (by simp) _).alloc (by simp;omega) _
 have sX:X.heap.size=w.heap.size+3:=by rw[hX];simp
 have T1:eJ X w.heap.size 24 (.int .i64 H.half) (.int .i64 H.old) (.slice a1 H.row.length c1) (.int .i64 H.side) (.int .i64 H.top) (.slice a2 H.roots.length c2) (.slice a3 H.a7.length c3) (.slice a4 H.seen.length c4) (.int .i64 H.seed):=by
  rw[hX];exact ai (ai (fS w _ _ _ _ _ _ _ _ _ _) ((Below.refl _ _).alloc (Nat.le_refl _) _)) ((Below.refl _ _).alloc (Nat.le_refl _) _)
 have T2:eJ X (w.heap.size+1) 26 (.int .i64 0) (.int .i64 0) (.slice none 0 0) (.int .i64 0) (.int .i64 0) (.slice none 0 0) (.slice none 0 0) (.slice none 0 0) (.int .i64 0):=by
  rw[hX];have:=fS (w.alloc (.cells #[.int .i64 H.half,.int .i64 H.old,.slice a1 H.row.length c1,.int .i64 H.side,.int .i64 H.top,.slice a2 H.roots.length c2,.slice a3 H.a7.length c3,.slice a4 H.seen.length c4,.int .i64 H.seed] 24)) 26 (.int .i64 0) (.int .i64 0) (.slice none 0 0) (.int .i64 0) (.int .i64 0) (.slice none 0 0) (.slice none 0 0) (.slice none 0 0) (.int .i64 0)
  have:=ai this ((Below.refl _ _).alloc (Nat.le_refl _) (.cells #[.int .i64 H.half,.int .i64 H.old,.slice none 0 0,.int .i64 0,.int .i64 0,.slice none 0 0,.slice none 0 0,.slice none 0 0,.int .i64 0] 26))
  simpa using this
 have T3:eJ X (w.heap.size+1+1) 26 (.int .i64 H.half) (.int .i64 H.old) (.slice none 0 0) (.int .i64 0) (.int .i64 0) (.slice none 0 0) (.slice none 0 0) (.slice none 0 0) (.int .i64 0):=by
  rw[hX];have:=fS ((w.alloc (.cells #[.int .i64 H.half,.int .i64 H.old,.slice a1 H.row.length c1,.int .i64 H.side,.int .i64 H.top,.slice a2 H.roots.length c2,.slice a3 H.a7.length c3,.slice a4 H.seen.length c4,.int .i64 H.seed] 24)).alloc (.cells #[.int .i64 0,.int .i64 0,.slice none 0 0,.int .i64 0,.int .i64 0,.slice none 0 0,.slice none 0 0,.slice none 0 0,.int .i64 0] 26)) 26 (.int .i64 H.half) (.int .i64 H.old) (.slice none 0 0) (.int .i64 0) (.int .i64 0) (.slice none 0 0) (.slice none 0 0) (.slice none 0 0) (.int .i64 0)
  simpa using this
 have TI:=ir (aa h.1 BX) l1;have HA:Hid _:=h;have g2:w.heap.size≤w.heap.size+1:=by omega
 have g3:w.heap.size≤w.heap.size+1+1:=by omega
 have n13:w.heap.size ∉ [w.heap.size+1+1]:=by simp;omega
 have n23:w.heap.size+1 ∉ [w.heap.size+1+1]:=by simp
 have m13:¬w.heap.size=w.heap.size+1+1:=by omega
 have sX3:w.heap.size+1+1<X.heap.size:=by omega
 have sX1:w.heap.size≤X.heap.size:=by omega
 clear hX h sX;go_enter Tryz.func7,Tryz.ntmps7;go_wp2_with fail;rw[←HX.out];generalize hb3:w.heap.size+1+1=B3 at *;generalize hb2:w.heap.size+1=B2 at *;refine TI.mono ?_;rintro e w2 ⟨rfl,F1,b2⟩;clear TI HX;have s2:=lt_of_block F1;have U1:=ai T1 b2;have U2:=ai T2 b2;have U3:=ai T3 b2;have BW:=BX.trans (b2.mono sX1);clear T1 T2 T3 BX b2;generalize hQ1:X.heap.size=q1 at *;have V3:=vx (vw (mw U3 (.slice (some ⟨q1,0,none⟩) H.row.length H.row.length)) (.int .i64 H.side)) (.int .i64 H.top);have C3:=((aH w2 B3 2 (.slice (some ⟨q1,0,none⟩) H.row.length H.row.length)).trans (aH _ B3 3 (.int .i64 H.side))).trans (aH _ B3 4 (.int .i64 H.top));have V1:=cx U1 C3 n13;have V2:=cx U2 C3 n23;have F1':=iI F1 C3 (by simp;omega);have BW':=((BW.setCell (p:=⟨B3,2,none⟩) g3 (.slice (some ⟨q1,0,none⟩) H.row.length H.row.length)).setCell (p:=⟨B3,3,none⟩) g3 (.int .i64 H.side)).setCell (p:=⟨B3,4,none⟩) g3 (.int .i64 H.top);have sY:(((w2.setCell ⟨B3,2,none⟩ (.slice (some ⟨q1,0,none⟩) H.row.length H.row.length)).setCell ⟨B3,3,none⟩ (.int .i64 H.side)).setCell ⟨B3,4,none⟩ (.int .i64 H.top)).heap.size=w2.heap.size:=by simp
 have TI:=ir (aa HA.out.2.1 BW') l2;obtain⟨⟨k0,k1,k2,k3,k4⟩,⟨k5,k6,k7,k8⟩,_⟩:=ag U1;obtain⟨⟨j0,j1,j2,j3,j4⟩,⟨j5,j6,j7,j8⟩,jf⟩:=ag U3;have f2:=jf 2;have f3:=jf 3;have f4:=jf 4;have HV1:Hid _:=V1;have HV2:Hid _:=V2;have HV3:Hid _:=V3;have HF1:Hid _:=F1';have HB:Hid _:=BW';clear U1 U2 U3 V1 V2 V3 F1 F1' C3 BW BW' jf;go_wp2_with fail;generalize hY:(((w2.setCell ⟨B3,2,none⟩ (.slice (some ⟨q1,0,none⟩) H.row.length H.row.length)).setCell ⟨B3,3,none⟩ (.int .i64 H.side)).setCell ⟨B3,4,none⟩ (.int .i64 H.top))=Y at *;have sY1:w2.heap.size≤Y.heap.size:=by omega
 clear sY hY k0 k1 k2 k3 k4 k5 k6 k7 k8 j0 j1 j2 j3 j4 j5 j6 j7 j8 f2 f3 f4;refine TI.mono ?_;rintro e w3 ⟨rfl,F2,b3⟩;clear TI;have s3:=lt_of_block F2;have U1:=ai HV1.out b3;have U2:=ai HV2.out b3;have U3:=ai HV3.out b3;have G1:=iW HF1.out b3;have BW:=HB.out.trans (b3.mono HB.out.size);clear HV1 HV2 HV3 HF1 HB b3;generalize hQ2:Y.heap.size=q2 at *;have V3:=mz U3 (.slice (some ⟨q2,0,none⟩) H.roots.length H.roots.length);have C3:=aH w3 B3 5 (.slice (some ⟨q2,0,none⟩) H.roots.length H.roots.length);have V1:=cx U1 C3 n13;have V2:=cx U2 C3 n23;have F1':=iI G1 C3 (by simp;omega);have F2':=iI F2 C3 (by simp;omega);have BW':=BW.setCell (p:=⟨B3,5,none⟩) g3 (.slice (some ⟨q2,0,none⟩) H.roots.length H.roots.length);have sZ:(w3.setCell ⟨B3,5,none⟩ (.slice (some ⟨q2,0,none⟩) H.roots.length H.roots.length)).heap.size=w3.heap.size:=by simp
 have TI:=ir (aa HA.out.2.2.1 BW') l3;obtain⟨⟨k0,k1,k2,k3,k4⟩,⟨k5,k6,k7,k8⟩,_⟩:=ag U1;obtain⟨⟨j0,j1,j2,j3,j4⟩,⟨j5,j6,j7,j8⟩,jf⟩:=ag U3;have f5:=jf 5;have HV1:Hid _:=V1;have HV2:Hid _:=V2;have HV3:Hid _:=V3;have HF1:Hid _:=F1';have HF2:Hid _:=F2';have HB:Hid _:=BW';clear U1 U2 U3 V1 V2 V3 G1 F1' F2 F2' C3 BW BW' jf;go_wp2_with fail;generalize hZ:(w3.setCell ⟨B3,5,none⟩ (.slice (some ⟨q2,0,none⟩) H.roots.length H.roots.length))=Z at *;have sZ1:w3.heap.size≤Z.heap.size:=by omega
 clear sZ hZ k0 k1 k2 k3 k4 k5 k6 k7 k8 j0 j1 j2 j3 j4 j5 j6 j7 j8 f5;refine TI.mono ?_;rintro e w4 ⟨rfl,F3,b4⟩;clear TI;have s4:=lt_of_block F3;have U1:=ai HV1.out b4;have U2:=ai HV2.out b4;have U3:=ai HV3.out b4;have G1:=iW HF1.out b4;have G2:=iW HF2.out b4;have BW:=HB.out.trans (b4.mono HB.out.size);clear HV1 HV2 HV3 HF1 HF2 HB b4;generalize hQ3:Z.heap.size=q3 at *;have V3:=jX U3 (.slice (some ⟨q3,0,none⟩) H.a7.length H.a7.length);have C3:=aH w4 B3 6 (.slice (some ⟨q3,0,none⟩) H.a7.length H.a7.length);have V1:=cx U1 C3 n13;have V2:=cx U2 C3 n23;have F1':=iI G1 C3 (by simp;omega);have F2':=iI G2 C3 (by simp;omega);have F3':=iI F3 C3 (by simp;omega);have BW':=BW.setCell (p:=⟨B3,6,none⟩) g3 (.slice (some ⟨q3,0,none⟩) H.a7.length H.a7.length);have sV:(w4.setCell ⟨B3,6,none⟩ (.slice (some ⟨q3,0,none⟩) H.a7.length H.a7.length)).heap.size=w4.heap.size:=by simp
 have TI:=ir (aa HA.out.2.2.2 BW') l4;obtain⟨⟨k0,k1,k2,k3,k4⟩,⟨k5,k6,k7,k8⟩,_⟩:=ag U1;obtain⟨⟨j0,j1,j2,j3,j4⟩,⟨j5,j6,j7,j8⟩,jf⟩:=ag U3;have f6:=jf 6;have HV1:Hid _:=V1;have HV2:Hid _:=V2;have HV3:Hid _:=V3;have HF1:Hid _:=F1';have HF2:Hid _:=F2';have HF3:Hid _:=F3';have HB:Hid _:=BW';clear U1 U2 U3 V1 V2 V3 G1 G2 F1' F2' F3 F3' C3 BW BW' jf HA;go_wp2_with fail;generalize hV:(w4.setCell ⟨B3,6,none⟩ (.slice (some ⟨q3,0,none⟩) H.a7.length H.a7.length))=V at *;have sV1:w4.heap.size≤V.heap.size:=by omega
 clear sV hV k0 k1 k2 k3 k4 k5 k6 k7 k8 j0 j1 j2 j3 j4 j5 j6 j7 j8 f6;refine TI.mono ?_;rintro e w5 ⟨rfl,F4,b5⟩;clear TI;have s5:=lt_of_block F4;have U1:=ai HV1.out b5;have U2:=ai HV2.out b5;have U3:=ai HV3.out b5;have G1:=iW HF1.out b5;have G2:=iW HF2.out b5;have G3:=iW HF3.out b5;have BW:=HB.out.trans (b5.mono HB.out.size);clear HV1 HV2 HV3 HF1 HF2 HF3 HB b5;generalize hQ4:V.heap.size=q4 at *;obtain⟨Y5,hY5⟩:∃Y5,Y5=(w5.setCell ⟨B3,7,none⟩ (.slice (some ⟨q4,0,none⟩) H.seen.length H.seen.length)).setCell ⟨B3,8,none⟩ (.int .i64 H.seed):=⟨_,rfl⟩
 have C5:Ch [B3] w5 Y5:=by rw[hY5];exact (aH _ _ _ _).trans (aH _ _ _ _)
 have V2:=cx U2 C5 n23;have W:=fB V2 (.int .i64 H.half) (.int .i64 H.old) (.slice (some ⟨q1,0,none⟩) H.row.length H.row.length) (.int .i64 H.side) (.int .i64 H.top) (.slice (some ⟨q2,0,none⟩) H.roots.length H.roots.length) (.slice (some ⟨q3,0,none⟩) H.a7.length H.a7.length) (.slice (some ⟨q4,0,none⟩) H.seen.length H.seen.length) (.int .i64 H.seed);have C7:=(C5.mono (T:=[B2,B3]) (fun k hk=>by rw[List.mem_singleton]at hk;rw[hk];simp)).trans ((c9 (X:=Y5) (b:=B2) (.int .i64 H.half) (.int .i64 H.old) (.slice (some ⟨q1,0,none⟩) H.row.length H.row.length) (.int .i64 H.side) (.int .i64 H.top) (.slice (some ⟨q2,0,none⟩) H.roots.length H.roots.length) (.slice (some ⟨q3,0,none⟩) H.a7.length H.a7.length) (.slice (some ⟨q4,0,none⟩) H.seen.length H.seen.length) (.int .i64 H.seed)).mono (T:=[B2,B3]) (fun k hk=>by rw[List.mem_singleton]at hk;rw[hk];simp));have far:∀k,q1≤k→k ∉ [B2,B3]:=fun k hk e=>by simp only[List.mem_cons,List.not_mem_nil,or_false]at e;omega
 have R1:=iI G1 C7 (far q1 (by omega));have R2:=iI G2 C7 (far q2 (by omega));have R3:=iI G3 C7 (far q3 (by omega));have R4:=iI F4 C7 (far q4 (by omega));have B7:Below w.heap.size w _:=dF (show Below w.heap.size w Y5 by rw[hY5];exact (BW.setCell (p:=⟨B3,7,none⟩) g3 _).setCell (p:=⟨B3,8,none⟩) g3 _) g2 (.int .i64 H.half) (.int .i64 H.old) (.slice (some ⟨q1,0,none⟩) H.row.length H.row.length) (.int .i64 H.side) (.int .i64 H.top) (.slice (some ⟨q2,0,none⟩) H.roots.length H.roots.length) (.slice (some ⟨q3,0,none⟩) H.a7.length H.a7.length) (.slice (some ⟨q4,0,none⟩) H.seen.length H.seen.length) (.int .i64 H.seed)
 have ND:(lK (.slice (some ⟨q1,0,none⟩) H.row.length H.row.length) (.slice (some ⟨q2,0,none⟩) H.roots.length H.roots.length) (.slice (some ⟨q3,0,none⟩) H.a7.length H.a7.length) (.slice (some ⟨q4,0,none⟩) H.seen.length H.seen.length)).Nodup:=by
  show ([q1]++[q2]++[q3]++[q4]).Nodup
  simp;omega
 have OG:rR _ w.heap.size _ _ _ _ H:=⟨⟨fZ (base:=w.heap.size) R1 (by omega) (by unfold maxLen;omega),fZ (base:=w.heap.size) R2 (by omega) (by unfold maxLen;omega),fZ (base:=w.heap.size) R3 (by omega) (by unfold maxLen;omega),fZ (base:=w.heap.size) R4 (by omega) (by unfold maxLen;omega)⟩,ND⟩;obtain⟨⟨k0,k1,k2,k3,k4⟩,⟨k5,k6,k7,k8⟩,_⟩:=ag U1;obtain⟨⟨j0,j1,j2,j3,j4⟩,⟨j5,j6,j7,j8⟩,jf⟩:=ag U3;obtain⟨⟨i0,i1,i2,i3,i4⟩,⟨i5,i6,i7,i8⟩,iF⟩:=ag U2;have f7:=jf 7;have f8:=jf 8;have d0:=iF 0;have d1:=iF 1;have d2:=iF 2;have d3:=iF 3;have d4:=iF 4;have d5:=iF 5;have d6:=iF 6;have d7:=iF 7;have d8:=iF 8;have HOG:Hid _:=OG;have HW:Hid _:=W;have HB7:Hid _:=B7;have HY5:Hid _:=hY5;clear R1 R2 R3 R4 B7 ND OG W C5 C7 V2 U1 U2 U3 G1 G2 G3 F4 BW far jf iF hY5;go_wp2;rw[HY5.out]at HW HOG HB7;exact bodyPost_ret (gK rfl rfl HW.out) rfl ⟨_,_,_,_,rfl,HOG.out,HB7.out⟩
def ou (w:World) (vr vo vm vs:Value) (k0 kE:Nat):Prop:=∃n1 n2 n3 n4:Nat,n1+n2+n3+n4≤1048576∧(au w vr (marks k0 n1)∧au w vo (marks (k0+n1:Nat) n2)∧au w vm (marks (k0+n1+n2:Nat) n3)∧au w vs (marks (k0+n1+n2+n3:Nat) n4))∧kE=k0+n1+n2+n3+n4
theorem eY {w w':World} {vr vo vm vs:Value} {k0 kE:Nat} (h:ou w vr vo vm vs k0 kE) (hb:Below w.heap.size w w'):ou w' vr vo vm vs k0 kE:=by
 obtain⟨n1,n2,n3,n4,h0,⟨h1,h2,h3,h4⟩,h5⟩:=h;exact⟨n1,n2,n3,n4,h0,⟨aa h1 hb,aa h2 hb,aa h3 hb,aa h4 hb⟩,h5⟩
theorem gL {w:World} {base:Nat} {v:Value} {xs:List Int} (h:rows.Own w base v xs) (hl:xs.length≤1048576) (k0:Nat) (hk:k0≤1048577) :
    Calls Tryz.prog 28 #[v,.int .i64 (k0:Int)] w fun e w'=>e = .returned (.int .i64 ((k0+xs.length:Nat):Int))∧rows.Own w' base v (marks k0 xs.length)∧Ch (blk v) w w':=
 (rP h hl k0 (by omega) (by omega)).mono fun _ _ ⟨a,b,c⟩=>⟨by rw[a,Int.natCast_add],b,cJ c⟩
theorem gM {w:World} {v:Value} {n:Nat} (k0:Nat) (h:au w v (marks k0 n)) (hl:n≤1048576) (hk:k0≤1048577) :
    Calls Tryz.prog 29 #[v,.int .i64 (k0:Int)] w fun e w'=>e = .returned (.int .i64 ((k0+n:Nat):Int))∧w'=w:=
 (rQ k0 h hl (by omega) (by omega)).mono fun _ _ ⟨a,b⟩=>⟨by rw[a,Int.natCast_add],b⟩
set_option maxHeartbeats 4000000 in
theorem oE {w:World} {base:Nat} {vr vo vm vs:Value} {H:Hp} (h:rR w base vr vo vm vs H) (hs:bI H≤1048576) :
    Calls Tryz.prog 10 #[hpv H vr vo vm vs,.int .i64 1] w fun e w'=>∃kE:Nat,e = .returned (.int .i64 (kE:Int))∧kE≤1048577∧ou w' vr vo vm vs 1 kE∧Ch (lK vr vo vm vs) w w':=by
 obtain⟨l1,l2,l3,l4⟩:=pD hs;have hsum:H.row.length+H.roots.length+H.a7.length+H.seen.length≤1048576:=hs;obtain⟨⟨ap1,ap2,ap3⟩,⟨ap4,ap5⟩,ap6⟩:=sJ h.2;have LT:=iH h;obtain⟨i1,i2,i3,i4⟩:= @dV vr vo vm vs;obtain⟨a1,c1,a2,c2,a3,c3,a4,c4,e1,e2,e3,e4⟩:=aK (dD h);subst e1 e2 e3 e4;have B:Below w.heap.size w (w.alloc (hpb H (.slice a1 H.row.length c1) (.slice a2 H.roots.length c2) (.slice a3 H.a7.length c3) (.slice a4 H.seen.length c4))):=(Below.refl _ w).alloc (Nat.le_refl _) _;have T:=fS w 26 (.int .i64 H.half) (.int .i64 H.old) (.slice a1 H.row.length c1) (.int .i64 H.side) (.int .i64 H.top) (.slice a2 H.roots.length c2) (.slice a3 H.a7.length c3) (.slice a4 H.seen.length c4) (.int .i64 H.seed);obtain⟨⟨O1,O2,O3,O4⟩,_⟩:=aV h B;have M1:=gL O1 l1 1 (by decide);rw[show ((1:Nat):Int)=1 from rfl]at M1;have HT:Hid _:=T;have HC0:Hid (Ch (lK (.slice a1 H.row.length c1) (.slice a2 H.roots.length c2) (.slice a3 H.a7.length c3) (.slice a4 H.seen.length c4)) w (w.alloc (hpb H (.slice a1 H.row.length c1) (.slice a2 H.roots.length c2) (.slice a3 H.a7.length c3) (.slice a4 H.seen.length c4)))):=bu B;have HO2:Hid _:=O2;have HO3:Hid _:=O3;have HO4:Hid _:=O4;have HA:Hid _:=And.intro ap1 (And.intro ap2 (And.intro ap3 (And.intro ap4 (And.intro ap5 ap6))));have HLT:Hid _:=LT;have HI:Hid _:=And.intro i1 (And.intro i2 (And.intro i3 i4));clear B T O1 O2 O3 O4 h LT ap1 ap2 ap3 ap4 ap5 ap6 i1 i2 i3 i4 hs;obtain⟨N1,hN1⟩:∃N1:Nat,1+H.row.length=N1:=⟨_,rfl⟩
 obtain⟨N2,hN2⟩:∃N2:Nat,N1+H.roots.length=N2:=⟨_,rfl⟩
 obtain⟨N3,hN3⟩:∃N3:Nat,N2+H.a7.length=N3:=⟨_,rfl⟩
 obtain⟨N4,hN4⟩:∃N4:Nat,N3+H.seen.length=N4:=⟨_,rfl⟩
 rw[hN1]at M1;have b1:N1≤1048577:=by omega
 have b2:N2≤1048577:=by omega
 have b3:N3≤1048577:=by omega
 have HBE:Hid (N4≤1048577):=by show N4≤1048577;omega
 have HN:Hid _:=And.intro hN1 (And.intro hN2 (And.intro hN3 hN4));clear hN1 hN2 hN3 hN4;go_enter Tryz.func10,Tryz.ntmps10;go_wp2_with fail;generalize (w.alloc (hpb H (.slice a1 H.row.length c1) (.slice a2 H.roots.length c2) (.slice a3 H.a7.length c3) (.slice a4 H.seen.length c4)))=X at *;refine M1.mono ?_;rintro e w2 ⟨rfl,P1,C2⟩;have U:=cx HT.out C2 (fun e=>by have:=(HLT.out _ (HI.out.1 _ e)).2;omega);have O2:rows.Own w2 _ _ _:=aE HO2.out C2 (fun k hk e=>HA.out.1 k e hk);have O3:rows.Own w2 _ _ _:=aE HO3.out C2 (fun k hk e=>HA.out.2.1 k e hk);have O4:rows.Own w2 _ _ _:=aE HO4.out C2 (fun k hk e=>HA.out.2.2.1 k e hk);have D:=HC0.out.trans (C2.mono HI.out.1);clear M1 C2 HT HO2 HO3 HO4 HC0;have M2:=gL O2 l2 N1 b1;rw[HN.out.2.1]at M2;obtain⟨⟨k0,k1,k2,k3,k4⟩,⟨k5,k6,k7,k8⟩,_⟩:=ag U;have HT:Hid _:=U;have HP1:Hid _:=P1;have HO3:Hid _:=O3;have HO4:Hid _:=O4;have HC0:Hid _:=D;clear U P1 O2 O3 O4 D;go_wp2_with fail;refine M2.mono ?_;rintro e w3 ⟨rfl,P2,C2⟩;have U:=cx HT.out C2 (fun e=>by have:=(HLT.out _ (HI.out.2.1 _ e)).2;omega);have P1:rows.Own w3 _ _ _:=aE HP1.out C2 (fun k hk=>HA.out.1 k hk);have O3:rows.Own w3 _ _ _:=aE HO3.out C2 (fun k hk e=>HA.out.2.2.2.1 k e hk);have O4:rows.Own w3 _ _ _:=aE HO4.out C2 (fun k hk e=>HA.out.2.2.2.2.1 k e hk);have D:=HC0.out.trans (C2.mono HI.out.2.1);clear M2 C2 HT HP1 HO3 HO4 HC0 k0 k1 k2 k3 k4 k5 k6 k7 k8;have M3:=gL O3 l3 N2 b2;rw[HN.out.2.2.1]at M3;obtain⟨⟨k0,k1,k2,k3,k4⟩,⟨k5,k6,k7,k8⟩,_⟩:=ag U;have HT:Hid _:=U;have HP1:Hid _:=P1;have HP2:Hid _:=P2;have HO4:Hid _:=O4;have HC0:Hid _:=D;clear U P1 P2 O3 O4 D;go_wp2_with fail;refine M3.mono ?_;rintro e w4 ⟨rfl,P3,C2⟩;have U:=cx HT.out C2 (fun e=>by have:=(HLT.out _ (HI.out.2.2.1 _ e)).2;omega);have P1:rows.Own w4 _ _ _:=aE HP1.out C2 (fun k hk=>HA.out.2.1 k hk);have P2:rows.Own w4 _ _ _:=aE HP2.out C2 (fun k hk=>HA.out.2.2.2.1 k hk);have O4:rows.Own w4 _ _ _:=aE HO4.out C2 (fun k hk e=>HA.out.2.2.2.2.2 k e hk);have D:=HC0.out.trans (C2.mono HI.out.2.2.1);clear M3 C2 HT HP1 HP2 HO4 HC0 k0 k1 k2 k3 k4 k5 k6 k7 k8;have M4:=gL O4 l4 N3 b3;rw[HN.out.2.2.2]at M4;obtain⟨⟨k0,k1,k2,k3,k4⟩,⟨k5,k6,k7,k8⟩,_⟩:=ag U;have HP1:Hid _:=P1;have HP2:Hid _:=P2;have HP3:Hid _:=P3;have HC0:Hid _:=D;clear U P1 P2 P3 O4 D;go_wp2_with fail;refine M4.mono ?_;rintro e w5 ⟨rfl,P4,C2⟩;have P1:rows.Own w5 _ _ _:=aE HP1.out C2 (fun k hk=>HA.out.2.2.1 k hk);have P2:rows.Own w5 _ _ _:=aE HP2.out C2 (fun k hk=>HA.out.2.2.2.2.1 k hk);have P3:rows.Own w5 _ _ _:=aE HP3.out C2 (fun k hk=>HA.out.2.2.2.2.2 k hk);have D:=HC0.out.trans (C2.mono HI.out.2.2.2)
 have MK:ou w5 (.slice a1 H.row.length c1) (.slice a2 H.roots.length c2) (.slice a3 H.a7.length c3) (.slice a4 H.seen.length c4) 1 N4:=by
  obtain⟨n1,n2,n3,n4⟩:=HN.out;refine⟨H.row.length,H.roots.length,H.a7.length,H.seen.length,hsum,⟨aj P1,?_,?_,?_⟩,by omega⟩
  ·rw[n1];exact aj P2
  ·rw[n1,n2];exact aj P3
  ·rw[n1,n2,n3];exact aj P4
 have HMK:Hid _:=MK;have HD:Hid _:=D;clear M4 C2 P1 P2 P3 P4 D MK HP1 HP2 HP3 HC0 HA HI HLT HN;go_wp2;go_ret;exact⟨N4,rfl,HBE.out,HMK.out,HD.out⟩
set_option maxHeartbeats 2000000 in
theorem oF {w:World} {vr vo vm vs:Value} {H:Hp} {kE:Nat} (h:ou w vr vo vm vs 1 kE) :
    Calls Tryz.prog 11 #[hpv H vr vo vm vs,.int .i64 1] w fun e w'=>e = .returned (.int .i64 (kE:Int))∧Below w.heap.size w w':=by
 obtain⟨n1,n2,n3,n4,hsz,⟨h1,h2,h3,h4⟩,hE⟩:=h;obtain⟨a1,m1,c1,e1⟩:=bl h1;obtain⟨a2,m2,c2,e2⟩:=bl h2;obtain⟨a3,m3,c3,e3⟩:=bl h3;obtain⟨a4,m4,c4,e4⟩:=bl h4;subst e1 e2 e3 e4;have B:Below w.heap.size w (w.alloc (hpb H (.slice a1 m1 c1) (.slice a2 m2 c2) (.slice a3 m3 c3) (.slice a4 m4 c4))):=(Below.refl _ w).alloc (Nat.le_refl _) _;have H1:=gM 1 (aa h1 B) (by omega) (by omega);have H2:=gM (1+n1) (aa h2 B) (by omega) (by omega);have H3:=gM (1+n1+n2) (aa h3 B) (by omega) (by omega);have H4:=gM (1+n1+n2+n3) (aa h4 B) (by omega) (by omega);rw[←hE]at H4;rw[show ((1:Nat):Int)=1 from rfl]at H1;obtain⟨N1,hN1⟩:∃N1:Nat,1+n1=N1:=⟨_,rfl⟩
 rw[hN1]at H1 H2 H3 H4;obtain⟨N2,hN2⟩:∃N2:Nat,N1+n2=N2:=⟨_,rfl⟩
 rw[hN2]at H2 H3 H4;obtain⟨N3,hN3⟩:∃N3:Nat,N2+n3=N3:=⟨_,rfl⟩
 rw[hN3]at H3 H4;have p1:¬(N1:Int)<0:=by omega
 have p2:¬(N2:Int)<0:=by omega
 have p3:¬(N3:Int)<0:=by omega
 have p4:¬(kE:Int)<0:=by omega
 have HB:Hid _:=B;obtain⟨⟨k0,k1,k2,k3,k4⟩,⟨k5,k6,k7,k8⟩,_⟩:=ag (fS w 26 (.int .i64 H.half) (.int .i64 H.old) (.slice a1 m1 c1) (.int .i64 H.side) (.int .i64 H.top) (.slice a2 m2 c2) (.slice a3 m3 c3) (.slice a4 m4 c4) (.int .i64 H.seed));clear B h1 h2 h3 h4 hE hN1 hN2 hN3 hsz;go_enter Tryz.func11,Tryz.ntmps11
 go_wp2_with (first
  |(have hh:=H1;clear hh;go_at_call 29;refine H1.mono ?_;rintro e w3 ⟨rfl,hw3⟩;rw[hw3];clear hw3 w3 H1)
  |(have hh:=H2;clear hh;go_at_call 29;refine H2.mono ?_;rintro e w3 ⟨rfl,hw3⟩;rw[hw3];clear hw3 w3 H2)
  |(have hh:=H3;clear hh;go_at_call 29;refine H3.mono ?_;rintro e w3 ⟨rfl,hw3⟩;rw[hw3];clear hw3 w3 H3)
  |(have hh:=H4;clear hh;go_at_call 29;refine H4.mono ?_;rintro e w3 ⟨rfl,hw3⟩;rw[hw3];clear hw3 w3 H4))
 go_ret;exact⟨rfl,HB⟩
end Go.Proofs.YtocidankimefpaaGreatDoor.hp
