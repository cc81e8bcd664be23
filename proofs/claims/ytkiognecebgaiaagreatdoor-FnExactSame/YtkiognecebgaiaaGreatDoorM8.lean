/-
  Chapter 4 as the specification has it: Walk. Chapter 4 as the specification has it: ObjectAt. Chapter 4 as the specification has it: ObjectAt, at every row and place. A heap as it lies: nine fields, four of them lists of numbers. Heaps of a call's own, and what may change beside them. A heap that ca
-/
import Derived.Test.YtkiognecebgaiaaGreatDoorWalkS
import Derived.Test.YtkiognecebgaiaaGreatDoorM1
import Derived.Test.YtkiognecebgaiaaGreatDoorM5
import Derived.Deep.RegionLaw
import Derived.Test.YtkiognecebgaiaaGreatDoorM7
import Derived.WalkKit
import Derived.ProofKit
import Derived.OpenShut
namespace Go.Proofs.YtkiognecebgaiaaGreatDoor.walks
open Go.RowKit rows heads words
set_option maxRecDepth 100000
theorem own_nothing (w:World) (base:Nat) (hb:base≤w.heap.size):rows.Own (w.alloc (.cells #[] 2)) base (.slice (some ⟨w.heap.size,0,none⟩) 0 0) []:=
 ⟨rfl,.inr ⟨w.heap.size,0,#[],rfl,hb,heap_alloc_new w _,Nat.le_refl _,by decide,rfl,rfl⟩⟩
theorem own_snoc {w:World} {base:Nat} {v:Value} {xs:List Int} {x:Int} (h:w.ownsRow base 2 1 v (xs.length+1) (cellsOf xs++[.int .i64 x])):rows.Own w base v (xs++[x]):=by
 unfold rows.Own
 simpa [cellsOf] using h
theorem own_lt {w:World} {base:Nat} {v:Value} {xs:List Int} (h:rows.Own w base v xs):∀k,v.ownBlock=some k→base≤k∧k<w.heap.size:=World.ownsRow.lt h
theorem below_grown {base:Nat} {w w1 w2:World} {v:Value} (hb:Below base w w1) (hg:w1.grownBy w2 v.ownBlock) (hi:∀k,v.ownBlock=some k→base≤k∧k<w1.heap.size) (hs:base≤w1.heap.size):Below base w w2:=
 hb.grown hg hs (fun k e=>(hi k e).1)
set_option maxHeartbeats 4000000 in
theorem l4Walk_any {w:World} {v:Value} {xs:List Int} (h:IntsAt w v xs) (hl:xs.length≤1048576) (F T:Nat) (ht:T≤xs.length) :
    Calls Tryz.prog 127 #[v,.int .i64 F,.int .i64 T] w fun e w'=>∃v',e = .returned (.tuple #[v',.bool (walkO xs F T).isSome])∧rows.Own w' w.heap.size v' ((walkO xs F T).getD [])∧Below w.heap.size w w':=by
 obtain⟨i0,hi,hz0,hz1,hz2⟩:=info_parts info
 obtain⟨R,hR⟩:∃R,walkO xs F T=R:=⟨_,rfl⟩
 rw[hR]
 go_enter Tryz.func127,Tryz.ntmps127
 go_wp2_with fail
 go_loopw [8,9] (fun u i wr=>∃(k:Nat) (acc:List Int) (v3:Value),v3=u∧i = .int .i64 (k:Int)∧acc.length≤k∧R=(walkO xs k T).map (acc ++ ·)∧rows.Own wr w.heap.size u acc∧Below w.heap.size w wr) (fun _ i _=>T-(intOf i).toNat)
 case atStart=>exact⟨F,[],_,rfl,rfl,by simp,by rw[hR];cases R<;>simp,own_nothing w _ (Nat.le_refl _),(Below.refl _ _).alloc (Nat.le_refl _) _⟩
 case round=>
  obtain⟨k,acc,v3,rfl,rfl,hk,hw,Or,Br⟩:=hrel
  by_cases hlt:k<T
  ·have hlt':(k:Int)<(T:Int):=by omega
   have HW:Hid _:=hw
   clear hw hR
   go_wp2_with fail
   refine (l4Chunk_any (intsAt_below h Br) hl k (by omega)).mono ?_
   rintro e w2 ⟨rfl,b2⟩
   have hcb:=chunk_bounds xs k
   have O2:=own_below Or b2
   have B2:=Br.trans (b2.mono Br.size)
   have I2:=own_lt O2
   have sz2:=B2.size
   clear Or Br b2
   obtain⟨n,hc⟩:=Int.eq_ofNat_of_zero_le (show 0≤chunk xs k by omega)
   rw[hc]at hcb
   rw[hc]
   have HC:Hid _:=hc
   clear hc
   by_cases hc0:(n:Int)=0
   ·have e:R=none:=by rw[HW.out,walkO_bad hlt (.inl (by rw[HC.out];exact hc0))];rfl
    have HE:Hid _:=e
    clear HW e hcb
    go_wp2
    go_ret2
    exact⟨_,by rw[HE.out];rfl,by rw[HE.out];exact own_nothing w2 _ sz2,B2.alloc sz2 _⟩
   ·have hc0':((n:Int)==0)=false:=by simpa using hc0
    by_cases hc1:(k:Int)+(n:Int) > T
    ·have e:R=none:=by rw[HW.out,walkO_bad hlt (.inr (by rw[HC.out];exact hc1))];rfl
     have HE:Hid _:=e
     clear HW e
     go_wp2
     go_ret2
     exact⟨_,by rw[HE.out];rfl,by rw[HE.out];exact own_nothing w2 _ sz2,B2.alloc sz2 _⟩
    ·have e:R=(walkO xs (k+n) T).map ((acc++[(k:Int)]) ++ ·):=by
       have e1:k+(chunk xs k).toNat=k+n:=by rw[HC.out];simp
       rw[HW.out,walkO_step hlt (by rw[HC.out];omega),e1]
       cases walkO xs (k+n) T<;>simp
     have HE:Hid _:=e
     clear HW HC e
     have NEWS:∀j u,[Value.int .i64 (k:Int)][j]? = some u→(w2.alloc (.cells #[.int .i64 (k:Int)] 2)).cell? ((⟨w2.heap.size,0,none⟩:Addr).add j)=some u:=by
      intro j u hj
      match j,hj with
      |0,hj=>simp at hj;subst hj;simp[Addr.add]
     go_wp2_with (at_builtin;refine wpList_append_own _ rfl _ _ 48 rfl w.heap.size 2 i0 (.int .i64 0) 1 8 Tryz.underlying48 hi hz0 hz1 hz2 rfl (by decide) v3 acc.length (cellsOf acc) rfl (World.ownsRow.alloc O2 _) ⟨w2.heap.size,0,none⟩ 1 1 [.int .i64 (k:Int)] rfl rfl NEWS (ints_oneCell .i64 [(k:Int)]) (by unfold maxLen;omega) (by omega) (by simp;omega) ?_;intro v' w3 hown hgrow _)
     have O3:rows.Own w3 w.heap.size v' (acc++[(k:Int)]):=own_snoc hown
     have B3:Below w.heap.size w w3:=below_grown (B2.alloc sz2 _) hgrow (fun j e=>⟨(I2 j e).1,by have:=(I2 j e).2;simp;omega⟩) (by simp;omega)
     clear hown hgrow O2 I2 B2 NEWS
     go_wp2
     go_roundw
     case rel=>exact⟨k+n,acc++[(k:Int)],v',rfl,by go_num,by simp;omega,HE,O3,B3⟩
     case measure=>simp[intOf];omega
  ·have hlt':¬(k:Int)<(T:Int):=by omega
   have e:R=some acc:=by rw[hw,walkO_end hlt];simp
   have HE:Hid _:=e
   have HO:Hid _:=Or
   have HB:Hid _:=Br
   clear hw hR e Or Br
   go_wp2
   go_ret2
   exact⟨_,by rw[HE.out];rfl,by rw[HE.out];exact HO,HB⟩
abbrev hw (n:Int):Value:=hv (uS n) (uF n) (uC n) (uH n) (uP n) (uM n)
theorem l4Head_any {w:World} {v:Value} {xs:List Int} (h:IntsAt w v xs) (k:Nat) (hk:k<xs.length) :
    Calls Tryz.prog 100 #[v,.int .i64 k] w fun e w'=>e = .returned (hw (xs.getD k 0))∧Below w.heap.size w w':=by
 obtain⟨a,cap,rfl,hlc,hcm,_,hc⟩:=h
 obtain⟨b,off,rfl,hb,hcc⟩:=hc (by omega)
 have c0:=hcc k hk
 clear hc hcc
 generalize xs.getD k 0=x at *
 unfold maxLen at hcm
 have U:=sUnpacked_any x
 unfold hw
 generalize uS x=s at *
 generalize uF x=f at *
 generalize uC x=c at *
 generalize uH x=g at *
 generalize uP x=p at *
 generalize uM x=m at *
 go_enter Tryz.func100,Tryz.ntmps100
 go_wp2_with fail
 refine (U _).mono ?_
 rintro e w1 ⟨rfl,B1⟩
 have B0:Below w.heap.size w w1:=((Below.refl _ w).alloc (Nat.le_refl _) _).trans (B1.mono (by simp))
 have sz1:=B1.size
 have T1:HeadAt w1 w.heap.size 0 0 0 0 false false:=(B1.block w.heap.size (by simp)).trans (heap_alloc_new w _)
 obtain⟨k0,k1,k2,k3,k4,k5,fz⟩:=headAt_cells T1
 have hlt:=lt_of_block T1
 simp only[World.size_alloc]at sz1
 clear B1 U
 go_wp2
 exact bodyPost_ret (res_head_at rfl rfl (headAt_alloc (six_set T1 s f c g p m) _)) rfl ⟨rfl,(six_below B0 (Nat.le_refl _) s f c g p m).alloc (by simp;omega) _⟩
theorem l4Count_any (s f c h:Int) (p m:Bool) (w:World) :
    Calls Tryz.prog 124 #[hv s f c h p m] w fun e w'=>e = .returned (.int .i64 (if f=7 then 1 else if f=6 then 0 else s))∧w'=w.alloc (hb s f c h p m):=by
 by_cases h7:f=7
 ·subst h7
  go_enter Tryz.func124,Tryz.ntmps124
  go_wp2
  go_ret
  exact⟨rfl,rfl⟩
 ·have h7':(f==7)=false:=by simpa using h7
  rw[if_neg h7]
  by_cases h6:f=6
  ·subst h6
   go_enter Tryz.func124,Tryz.ntmps124
   go_wp2
   go_ret
   exact⟨rfl,rfl⟩
  ·have h6':(f==6)=false:=by simpa using h6
   rw[if_neg h6]
   go_enter Tryz.func124,Tryz.ntmps124
   go_wp2
   go_ret
   exact⟨rfl,rfl⟩
theorem field_format (s f c h:Int) (p m:Bool) (w:World):(Instr.field 101 (hv s f c h p m) 1).run Tryz.prog w = .ok (.int .i64 f) w:=rfl
end Go.Proofs.YtkiognecebgaiaaGreatDoor.walks
namespace Go.Proofs.YtkiognecebgaiaaGreatDoor.hp
open Go.RowKit rows heads words walks
set_option maxRecDepth 100000
structure Hp where
 half:Int
 old:Int
 row:List Int
 side:Int
 top:Int
 roots:List Int
 mourned:List Int
 seen:List Int
 seed:Int
abbrev hpv (H:Hp) (vr vo vm vs:Value):Value:=.agg #[.int .i64 H.half,.int .i64 H.old,vr,.int .i64 H.side,.int .i64 H.top,vo,vm,vs,.int .i64 H.seed]
abbrev hpb (H:Hp) (vr vo vm vs:Value):Obj:=.cells #[.int .i64 H.half,.int .i64 H.old,vr,.int .i64 H.side,.int .i64 H.top,vo,vm,vs,.int .i64 H.seed] 58
def Nine (w:World) (b:Nat) (t:TypeId) (c0 c1 c2 c3 c4 c5 c6 c7 c8:Value):Prop:=w.heap[b]? = some (.cells #[c0,c1,c2,c3,c4,c5,c6,c7,c8] t (0,0))
theorem nine_cells {w:World} {b:Nat} {t:TypeId} {c0 c1 c2 c3 c4 c5 c6 c7 c8:Value} (h:Nine w b t c0 c1 c2 c3 c4 c5 c6 c7 c8) :
    (w.cell? ⟨b,0,none⟩=some c0∧w.cell? ⟨b,1,none⟩=some c1∧w.cell? ⟨b,2,none⟩=some c2∧w.cell? ⟨b,3,none⟩=some c3∧w.cell? ⟨b,4,none⟩=some c4)∧(w.cell? ⟨b,5,none⟩=some c5∧w.cell? ⟨b,6,none⟩=some c6∧w.cell? ⟨b,7,none⟩=some c7∧w.cell? ⟨b,8,none⟩=some c8)∧∀k,w.frozen? ⟨b,k,none⟩=false:=by
 unfold Nine at h
 refine⟨⟨?_,?_,?_,?_,?_⟩,⟨?_,?_,?_,?_⟩,fun k => ?_⟩
 all_goals simp[World.cell?, World.frozen?, h]
theorem nine_below {w w':World} {b:Nat} {t:TypeId} {c0 c1 c2 c3 c4 c5 c6 c7 c8:Value} (h:Nine w b t c0 c1 c2 c3 c4 c5 c6 c7 c8) (hb:Below w.heap.size w w'):Nine w' b t c0 c1 c2 c3 c4 c5 c6 c7 c8:=(hb.block b (lt_of_block h)).trans h
theorem nine_new (w:World) (H:Hp) (vr vo vm vs:Value):Nine (w.alloc (hpb H vr vo vm vs)) w.heap.size 58 (.int .i64 H.half) (.int .i64 H.old) vr (.int .i64 H.side) (.int .i64 H.top) vo vm vs (.int .i64 H.seed):=heap_alloc_new _ _
def HpAt (w:World) (vr vo vm vs:Value) (H:Hp):Prop:=IntsAt w vr H.row∧IntsAt w vo H.roots∧IntsAt w vm H.mourned∧IntsAt w vs H.seen
theorem hpAt_below {w w':World} {vr vo vm vs:Value} {H:Hp} (h:HpAt w vr vo vm vs H) (hb:Below w.heap.size w w'):HpAt w' vr vo vm vs H:=⟨intsAt_below h.1 hb,intsAt_below h.2.1 hb,intsAt_below h.2.2.1 hb,intsAt_below h.2.2.2 hb⟩
theorem hpAt_slices {w:World} {vr vo vm vs:Value} {H:Hp} (h:HpAt w vr vo vm vs H):∃a1 c1 a2 c2 a3 c3 a4 c4,vr = .slice a1 H.row.length c1∧vo = .slice a2 H.roots.length c2∧vm = .slice a3 H.mourned.length c3∧vs = .slice a4 H.seen.length c4:=by
 obtain⟨⟨a1,c1,e1,_⟩,⟨a2,c2,e2,_⟩,⟨a3,c3,e3,_⟩,⟨a4,c4,e4,_⟩⟩:=h
 exact⟨a1,c1,a2,c2,a3,c3,a4,c4,e1,e2,e3,e4⟩
def hpSize (H:Hp):Nat:=H.row.length+H.roots.length+H.mourned.length+H.seen.length
def Plc (H:Hp) (ps:List Int):Prop:=∀p ∈ ps,∃j:Nat,p=j∧j<H.row.length
def blk (v:Value):List Nat:=v.ownBlock.toList
structure Ch (S:List Nat) (w w':World):Prop where
 os:w'.os=w.os
 tape:w'.tape=w.tape
 output:w'.output=w.output
 size:w.heap.size≤w'.heap.size
 block:∀k,k<w.heap.size→k ∉ S→w'.heap[k]? = w.heap[k]?
theorem Ch.refl (S:List Nat) (w:World):Ch S w w:=⟨rfl,rfl,rfl,Nat.le_refl _,fun _ _ _=>rfl⟩
theorem Ch.trans {S:List Nat} {a b c:World} (h:Ch S a b) (k:Ch S b c):Ch S a c:=
 ⟨k.os.trans h.os,k.tape.trans h.tape,k.output.trans h.output,Nat.le_trans h.size k.size,fun i hi hn=>(k.block i (Nat.lt_of_lt_of_le hi h.size) hn).trans (h.block i hi hn)⟩
theorem Ch.mono {S T:List Nat} {a b:World} (h:Ch S a b) (hs:∀k ∈ S,k ∈ T):Ch T a b:=⟨h.os,h.tape,h.output,h.size,fun k hk hn=>h.block k hk (fun e=>hn (hs k e))⟩
theorem ch_grown {a b:World} {v:Value} (h:a.grownBy b v.ownBlock):Ch (blk v) a b:=⟨h.os,h.tape,h.output,h.size,fun k hk hn=>h.block k hk (fun e=>hn (by unfold blk;rw[←e];simp))⟩
theorem ch_below {S:List Nat} {a b:World} (h:Below a.heap.size a b):Ch S a b:=⟨h.os,h.tape,h.output,h.size,fun k hk _=>h.block k hk⟩
theorem below_ch {S:List Nat} {B:Nat} {a b:World} (h:Ch S a b) (hb:B≤a.heap.size) (hs:∀k ∈ S,B≤k):Below B a b:=⟨h.os,h.tape,h.output,h.size,fun k hk=>h.block k (by omega) (fun e=>by have:=hs k e;omega)⟩
theorem row_ch {S:List Nat} {w w':World} {base size n:Nat} {t:TypeId} {v:Value} {xs:List Value} (h:w.ownsRow base t size v n xs) (hc:Ch S w w') (hd:∀k ∈ blk v,k ∉ S):w'.ownsRow base t size v n xs:=by
 obtain⟨h0,⟨h1,h2⟩|⟨g,cap,cur,h1,hg,hh,hle,hm,hs,ht⟩⟩:=h
 ·exact⟨h0,.inl ⟨h1,h2⟩⟩
 ·refine⟨h0,.inr ⟨g,cap,cur,h1,hg,(hc.block g (lt_of_block hh) (hd g ?_)).trans hh,hle,hm,hs,ht⟩⟩
  rw[h1];simp[blk,Value.ownBlock]
theorem blk_lt {w:World} {base n size:Nat} {t:TypeId} {v:Value} {xs:List Value} (h:w.ownsRow base t size v n xs):∀k ∈ blk v,base≤k∧k<w.heap.size:=fun k hk=>World.ownsRow.lt h k (by unfold blk at hk;exact Option.mem_toList.1 hk)
theorem one_ch (Y:World) (b k:Nat) (u:Value):Ch [b] Y (Y.setCell ⟨b,k,none⟩ u):=⟨rfl,rfl,rfl,by simp,fun j _ hn=>Below.heap_setCell Y _ u j (fun e=>hn (by simp[e]))⟩
theorem bel_of_drewN {w w':World} (h:∃n,w'=w.drewN n):Below w.heap.size w w':=by
 obtain⟨n,rfl⟩:=h
 exact⟨rfl,rfl,rfl,Nat.le_refl _,fun _ _=>rfl⟩
theorem ints_slice {w:World} {v:Value} {xs:List Int} (h:IntsAt w v xs):∃a n c,v = .slice a n c:=by
 obtain⟨a,c,e,_⟩:=h
 exact⟨a,_,c,e⟩
def hblk (vr vo vm vs:Value):List Nat:=blk vr++blk vo++blk vm++blk vs
def OwnH (w:World) (base:Nat) (vr vo vm vs:Value) (H:Hp):Prop:=(rows.Own w base vr H.row∧rows.Own w base vo H.roots∧rows.Own w base vm H.mourned∧rows.Own w base vs H.seen)∧(hblk vr vo vm vs).Nodup
theorem ownH_at {w:World} {base:Nat} {vr vo vm vs:Value} {H:Hp} (h:OwnH w base vr vo vm vs H):HpAt w vr vo vm vs H:=⟨own_ints h.1.1,own_ints h.1.2.1,own_ints h.1.2.2.1,own_ints h.1.2.2.2⟩
theorem ownH_below {w w':World} {base:Nat} {vr vo vm vs:Value} {H:Hp} (h:OwnH w base vr vo vm vs H) (hb:Below w.heap.size w w'):OwnH w' base vr vo vm vs H:=⟨⟨own_below h.1.1 hb,own_below h.1.2.1 hb,own_below h.1.2.2.1 hb,own_below h.1.2.2.2 hb⟩,h.2⟩
theorem nine_mk (w:World) (t:TypeId) (c0 c1 c2 c3 c4 c5 c6 c7 c8:Value):Nine (w.alloc (.cells #[c0,c1,c2,c3,c4,c5,c6,c7,c8] t)) w.heap.size t c0 c1 c2 c3 c4 c5 c6 c7 c8:=heap_alloc_new w _
theorem nine_ch {S:List Nat} {w w':World} {b:Nat} {t:TypeId} {c0 c1 c2 c3 c4 c5 c6 c7 c8:Value} (h:Nine w b t c0 c1 c2 c3 c4 c5 c6 c7 c8) (hc:Ch S w w') (hb:b ∉ S):Nine w' b t c0 c1 c2 c3 c4 c5 c6 c7 c8:=(hc.block b (lt_of_block h) hb).trans h
theorem cells_setCell9 {w:World} {b:Nat} {c:Array Value} {t:TypeId} (h:w.heap[b]? = some (.cells c t (0,0))) (k:Nat) (u:Value) :
    (w.setCell ⟨b,k,none⟩ u).heap[b]? = some (.cells (c.setIfInBounds k u) t (0,0)):=block_setCell h k u
theorem nine_set0 {w:World} {b:Nat} {t:TypeId} {c0 c1 c2 c3 c4 c5 c6 c7 c8:Value} (h:Nine w b t c0 c1 c2 c3 c4 c5 c6 c7 c8) (u:Value):Nine (w.setCell ⟨b,0,none⟩ u) b t u c1 c2 c3 c4 c5 c6 c7 c8:=(cells_setCell9 h 0 u).trans (by simp)
theorem nine_set1 {w:World} {b:Nat} {t:TypeId} {c0 c1 c2 c3 c4 c5 c6 c7 c8:Value} (h:Nine w b t c0 c1 c2 c3 c4 c5 c6 c7 c8) (u:Value):Nine (w.setCell ⟨b,1,none⟩ u) b t c0 u c2 c3 c4 c5 c6 c7 c8:=(cells_setCell9 h 1 u).trans (by simp)
theorem nine_set2 {w:World} {b:Nat} {t:TypeId} {c0 c1 c2 c3 c4 c5 c6 c7 c8:Value} (h:Nine w b t c0 c1 c2 c3 c4 c5 c6 c7 c8) (u:Value):Nine (w.setCell ⟨b,2,none⟩ u) b t c0 c1 u c3 c4 c5 c6 c7 c8:=(cells_setCell9 h 2 u).trans (by simp)
theorem nine_set3 {w:World} {b:Nat} {t:TypeId} {c0 c1 c2 c3 c4 c5 c6 c7 c8:Value} (h:Nine w b t c0 c1 c2 c3 c4 c5 c6 c7 c8) (u:Value):Nine (w.setCell ⟨b,3,none⟩ u) b t c0 c1 c2 u c4 c5 c6 c7 c8:=(cells_setCell9 h 3 u).trans (by simp)
theorem nine_set4 {w:World} {b:Nat} {t:TypeId} {c0 c1 c2 c3 c4 c5 c6 c7 c8:Value} (h:Nine w b t c0 c1 c2 c3 c4 c5 c6 c7 c8) (u:Value):Nine (w.setCell ⟨b,4,none⟩ u) b t c0 c1 c2 c3 u c5 c6 c7 c8:=(cells_setCell9 h 4 u).trans (by simp)
theorem nine_set5 {w:World} {b:Nat} {t:TypeId} {c0 c1 c2 c3 c4 c5 c6 c7 c8:Value} (h:Nine w b t c0 c1 c2 c3 c4 c5 c6 c7 c8) (u:Value):Nine (w.setCell ⟨b,5,none⟩ u) b t c0 c1 c2 c3 c4 u c6 c7 c8:=(cells_setCell9 h 5 u).trans (by simp)
theorem nine_set6 {w:World} {b:Nat} {t:TypeId} {c0 c1 c2 c3 c4 c5 c6 c7 c8:Value} (h:Nine w b t c0 c1 c2 c3 c4 c5 c6 c7 c8) (u:Value):Nine (w.setCell ⟨b,6,none⟩ u) b t c0 c1 c2 c3 c4 c5 u c7 c8:=(cells_setCell9 h 6 u).trans (by simp)
theorem nine_set7 {w:World} {b:Nat} {t:TypeId} {c0 c1 c2 c3 c4 c5 c6 c7 c8:Value} (h:Nine w b t c0 c1 c2 c3 c4 c5 c6 c7 c8) (u:Value):Nine (w.setCell ⟨b,7,none⟩ u) b t c0 c1 c2 c3 c4 c5 c6 u c8:=(cells_setCell9 h 7 u).trans (by simp)
theorem nine_set8 {w:World} {b:Nat} {t:TypeId} {c0 c1 c2 c3 c4 c5 c6 c7 c8:Value} (h:Nine w b t c0 c1 c2 c3 c4 c5 c6 c7 c8) (u:Value):Nine (w.setCell ⟨b,8,none⟩ u) b t c0 c1 c2 c3 c4 c5 c6 c7 u:=(cells_setCell9 h 8 u).trans (by simp)
theorem nine_sets {w:World} {b:Nat} {t:TypeId} {c0 c1 c2 c3 c4 c5 c6 c7 c8:Value} (h:Nine w b t c0 c1 c2 c3 c4 c5 c6 c7 c8) (u0 u1 u2 u3 u4 u5 u6 u7 u8:Value):Nine (((((((((w.setCell ⟨b,0,none⟩ u0).setCell ⟨b,1,none⟩ u1).setCell ⟨b,2,none⟩ u2).setCell ⟨b,3,none⟩ u3).setCell ⟨b,4,none⟩ u4).setCell ⟨b,5,none⟩ u5).setCell ⟨b,6,none⟩ u6).setCell ⟨b,7,none⟩ u7).setCell ⟨b,8,none⟩ u8) b t u0 u1 u2 u3 u4 u5 u6 u7 u8:=(nine_set8 (nine_set7 (nine_set6 (nine_set5 (nine_set4 (nine_set3 (nine_set2 (nine_set1 (nine_set0 h _) _) _) _) _) _) _) _) _)
theorem nine_belows {n:Nat} {w X:World} {b:Nat} (hB:Below n w X) (hb:n≤b) (u0 u1 u2 u3 u4 u5 u6 u7 u8:Value):Below n w (((((((((X.setCell ⟨b,0,none⟩ u0).setCell ⟨b,1,none⟩ u1).setCell ⟨b,2,none⟩ u2).setCell ⟨b,3,none⟩ u3).setCell ⟨b,4,none⟩ u4).setCell ⟨b,5,none⟩ u5).setCell ⟨b,6,none⟩ u6).setCell ⟨b,7,none⟩ u7).setCell ⟨b,8,none⟩ u8):=(Below.setCell (Below.setCell (Below.setCell (Below.setCell (Below.setCell (Below.setCell (Below.setCell (Below.setCell (Below.setCell hB (p:=⟨b,0,none⟩) hb _) (p:=⟨b,1,none⟩) hb _) (p:=⟨b,2,none⟩) hb _) (p:=⟨b,3,none⟩) hb _) (p:=⟨b,4,none⟩) hb _) (p:=⟨b,5,none⟩) hb _) (p:=⟨b,6,none⟩) hb _) (p:=⟨b,7,none⟩) hb _) (p:=⟨b,8,none⟩) hb _)
theorem nine_other {X:World} {b:Nat} (u0 u1 u2 u3 u4 u5 u6 u7 u8:Value):Ch [b] X (((((((((X.setCell ⟨b,0,none⟩ u0).setCell ⟨b,1,none⟩ u1).setCell ⟨b,2,none⟩ u2).setCell ⟨b,3,none⟩ u3).setCell ⟨b,4,none⟩ u4).setCell ⟨b,5,none⟩ u5).setCell ⟨b,6,none⟩ u6).setCell ⟨b,7,none⟩ u7).setCell ⟨b,8,none⟩ u8):=(Ch.trans (Ch.trans (Ch.trans (Ch.trans (Ch.trans (Ch.trans (Ch.trans (Ch.trans (one_ch _ _ _ _) (one_ch _ _ _ _)) (one_ch _ _ _ _)) (one_ch _ _ _ _)) (one_ch _ _ _ _)) (one_ch _ _ _ _)) (one_ch _ _ _ _)) (one_ch _ _ _ _)) (one_ch _ _ _ _))
theorem res_heap {fn:Func} {tmps:Array Value} {X:World} {j b:Nat} {a1 a2 a3 a4:Option Addr} {n1 d1 n2 d2 n3 d3 n4 d4:Nat} {x0 x1 x3 x4 x8:Int} (hf:fn.results=#[.cell j 58]) (h2:tmps[j]? = some (.pointer (some ⟨b,0,none⟩))) (hX:Nine X b 58 (.int .i64 x0) (.int .i64 x1) (.slice a1 n1 d1) (.int .i64 x3) (.int .i64 x4) (.slice a2 n2 d2) (.slice a3 n3 d3) (.slice a4 n4 d4) (.int .i64 x8)) :
    (results fn tmps).run Tryz.prog X = .ok (.agg #[.int .i64 x0,.int .i64 x1,.slice a1 n1 d1,.int .i64 x3,.int .i64 x4,.slice a2 n2 d2,.slice a3 n3 d3,.slice a4 n4 d4,.int .i64 x8]) X:=by
 obtain⟨⟨k0,k1,k2,k3,k4⟩,⟨k5,k6,k7,k8⟩,_⟩:=nine_cells hX
 clear hX
 simp[results,hf,h2,go_sem,k0,k1,k2,k3,k4,k5,k6,k7,k8]
end Go.Proofs.YtkiognecebgaiaaGreatDoor.hp
namespace Go.Proofs.YtkiognecebgaiaaGreatDoor.hp
open Go.ChangeShapes Go.WideShapes Go.ChangeAt Go.RowKit rows walks
def HpI (H:Hp):Prop:=(I64 H.half∧I64 H.old∧I64 H.side∧I64 H.top∧I64 H.seed)∧AllI H.row∧AllI H.roots∧AllI H.mourned∧AllI H.seen
section
variable {H:Type} {enc:TypeId×Value→H} {P:Program} {w:World} {base:Nat} {held:Bool}
theorem list9 {α:Type} {cs:List α} (h:cs.length=9):∃c0 c1 c2 c3 c4 c5 c6 c7 c8,cs=[c0,c1,c2,c3,c4,c5,c6,c7,c8]:=by
 match cs,h with
 | [c0,c1,c2,c3,c4,c5,c6,c7,c8],_=>exact⟨c0,c1,c2,c3,c4,c5,c6,c7,c8,rfl⟩
theorem array9 {α:Type} {cs:Array α} (h:cs.size=9):∃c0 c1 c2 c3 c4 c5 c6 c7 c8,cs=#[c0,c1,c2,c3,c4,c5,c6,c7,c8]:=by
 obtain⟨l⟩:=cs
 match l,h with
 | [c0,c1,c2,c3,c4,c5,c6,c7,c8],_=>exact⟨c0,c1,c2,c3,c4,c5,c6,c7,c8,rfl⟩
theorem open_list {t e:TypeId} {fuel:Nat} {v:Value} {x:DataW H×List MemPlace}
    (ht:P.underlying t=some (.slice e)) (he:P.underlying e=some (.int .i64)) (hc:P.cellsOf e=1)
    (h:DataW.trod enc P w base (fun _=>true) held fuel t [v]=some x):∃xs:List Int,IntsAt w v xs∧AllI xs:=by
 rcases open_ints ht he hc h with ⟨hcs,_⟩|⟨x,l,c,zs,hcs,_,hl,hm,hz,_,hcell,hwz⟩
 ·obtain rfl:v = .slice none 0 0:=by simpa using hcs
  obtain⟨xs,_,hx,ha⟩:=row_ints_all (k:=.i64) (w:=w) (a:=none) (len:=0) (cap:=0) (zs:=[]) rfl (.inl ⟨rfl,rfl,rfl,rfl⟩)
  exact⟨xs,hx,ha⟩
 ·obtain rfl:v = .slice (some x) l c:=by simpa using hcs
  obtain⟨xs,_,hx,ha⟩:=row_ints_all (k:=.i64) (w:=w) (a:=some x) (len:=l) (cap:=c) (zs:=zs) rfl (.inr ⟨_,rfl,hl,hm,by simpa using hz,hcell,hwz⟩)
  exact⟨xs,hx,ha⟩
theorem open_heap {r:Reach} {b0:Nat} {t ti tl:TypeId} {k0 k1 k2 k3 k4 k5 k6 k7 k8:Field} {v:Value} {d:DataW H} {p:List MemPlace}
    (hs:P.underlying t=some (.struct #[k0,k1,k2,k3,k4,k5,k6,k7,k8])) (hC:P.cellsOf t=9) (ki:P.cellsOf ti=1) (kl:P.cellsOf tl=1)
    (n0:k0.offset=0) (n1:k1.offset=1) (n2:k2.offset=2) (n3:k3.offset=3) (n4:k4.offset=4) (n5:k5.offset=5) (n6:k6.offset=6) (n7:k7.offset=7) (n8:k8.offset=8)
    (l0:k0.type=ti) (l1:k1.type=ti) (l2:k2.type=tl) (l3:k3.type=ti) (l4:k4.type=ti) (l5:k5.type=tl) (l6:k6.type=tl) (l7:k7.type=tl) (l8:k8.type=ti)
    (hi:P.underlying ti=some (.int .i64)) (hl:P.underlying tl=some (.slice ti))
    (hv:Value.okWide P w r b0 t v) (h:DataW.Trod enc P w base (fun _=>true) held t v d p) :
    ∃(vr vo vm vs:Value) (G:Hp),v=hpv G vr vo vm vs∧HpAt w vr vo vm vs G∧HpI G:=by
 obtain⟨cs,rfl,hsz⟩:=okWide_struct hs hv
 obtain⟨c0,c1,c2,c3,c4,c5,c6,c7,c8,rfl⟩:=array9 (hsz.trans hC)
 obtain⟨fuel,hf⟩:=h
 obtain⟨xs,n,_,hx,_,hlen,hg⟩:=DataW.trod_struct hs hf
 obtain⟨z0,z1,z2,z3,z4,z5,z6,z7,z8,rfl⟩:=list9 (show xs.length=9 from hlen)
 have q0:DataW.trod enc P w base (fun _=>true) held n ti [c0]=some z0:=by simpa [Value.cells,n0,ki,l0] using hg 0 k0 rfl
 have q1:DataW.trod enc P w base (fun _=>true) held n ti [c1]=some z1:=by simpa [Value.cells,n1,ki,l1] using hg 1 k1 rfl
 have q2:DataW.trod enc P w base (fun _=>true) held n tl [c2]=some z2:=by simpa [Value.cells,n2,kl,l2] using hg 2 k2 rfl
 have q3:DataW.trod enc P w base (fun _=>true) held n ti [c3]=some z3:=by simpa [Value.cells,n3,ki,l3] using hg 3 k3 rfl
 have q4:DataW.trod enc P w base (fun _=>true) held n ti [c4]=some z4:=by simpa [Value.cells,n4,ki,l4] using hg 4 k4 rfl
 have q5:DataW.trod enc P w base (fun _=>true) held n tl [c5]=some z5:=by simpa [Value.cells,n5,kl,l5] using hg 5 k5 rfl
 have q6:DataW.trod enc P w base (fun _=>true) held n tl [c6]=some z6:=by simpa [Value.cells,n6,kl,l6] using hg 6 k6 rfl
 have q7:DataW.trod enc P w base (fun _=>true) held n tl [c7]=some z7:=by simpa [Value.cells,n7,kl,l7] using hg 7 k7 rfl
 have q8:DataW.trod enc P w base (fun _=>true) held n ti [c8]=some z8:=by simpa [Value.cells,n8,ki,l8] using hg 8 k8 rfl
 obtain⟨x0,e0,_,w0⟩:=DataW.trod_int hi q0
 obtain⟨x1,e1,_,w1⟩:=DataW.trod_int hi q1
 obtain⟨x3,e3,_,w3⟩:=DataW.trod_int hi q3
 obtain⟨x4,e4,_,w4⟩:=DataW.trod_int hi q4
 obtain⟨x8,e8,_,w8⟩:=DataW.trod_int hi q8
 simp only[List.cons.injEq,and_true]at e0 e1 e3 e4 e8
 subst e0 e1 e3 e4 e8
 obtain⟨y2,r2,s2⟩:=open_list hl hi ki q2
 obtain⟨y5,r5,s5⟩:=open_list hl hi ki q5
 obtain⟨y6,r6,s6⟩:=open_list hl hi ki q6
 obtain⟨y7,r7,s7⟩:=open_list hl hi ki q7
 exact⟨c2,c5,c6,c7,⟨x0,x1,y2,x3,x4,y5,y6,y7,x8⟩,rfl,⟨r2,r5,r6,r7⟩,⟨i64_of_wf w0,i64_of_wf w1,i64_of_wf w3,i64_of_wf w4,i64_of_wf w8⟩,s2,s5,s6,s7⟩
end
end Go.Proofs.YtkiognecebgaiaaGreatDoor.hp
namespace Go.Proofs.YtkiognecebgaiaaGreatDoor.hp
open Go.RowKit rows heads words walks
set_option maxRecDepth 100000
set_option linter.unusedVariables false
theorem hp_parts {H:Hp} (h:hpSize H≤1048576):H.row.length≤1048576∧H.roots.length≤1048576∧H.mourned.length≤1048576∧H.seen.length≤1048576:=by
 unfold hpSize at h
 omega
theorem full_ch {S:List Nat} {w w':World} {b:Nat} {xs:List Int} (h:Full w b xs) (hc:Ch S w w') (hb:b ∉ S):Full w' b xs:=(hc.block b (lt_of_block h) hb).trans h
theorem full_belo {w w':World} {b:Nat} {xs:List Int} (h:Full w b xs) (hb:Below w.heap.size w w'):Full w' b xs:=(hb.block b (lt_of_block h)).trans h
set_option maxHeartbeats 8000000 in
theorem toHeap_any {w:World} {vr vo vm vs:Value} {H:Hp} (h:HpAt w vr vo vm vs H) (hs:hpSize H≤1048576) :
    Calls Tryz.prog 25 #[hpv H vr vo vm vs] w fun e w'=>∃(vr' vo' vm' vs':Value),e = .returned (hpv H vr' vo' vm' vs')∧OwnH w' w.heap.size vr' vo' vm' vs' H∧Below w.heap.size w w':=by
 obtain⟨l1,l2,l3,l4⟩:=hp_parts hs
 obtain⟨a1,c1,a2,c2,a3,c3,a4,c4,e1,e2,e3,e4⟩:=hpAt_slices h
 subst e1 e2 e3 e4
 obtain⟨X,hX⟩:∃X,X=((w.alloc (.cells #[.int .i64 H.half,.int .i64 H.old,.slice a1 H.row.length c1,.int .i64 H.side,.int .i64 H.top,.slice a2 H.roots.length c2,.slice a3 H.mourned.length c3,.slice a4 H.seen.length c4,.int .i64 H.seed] 50)).alloc (.cells #[.int .i64 0,.int .i64 0,.slice none 0 0,.int .i64 0,.int .i64 0,.slice none 0 0,.slice none 0 0,.slice none 0 0,.int .i64 0] 58)).alloc (.cells #[.int .i64 H.half,.int .i64 H.old,.slice none 0 0,.int .i64 0,.int .i64 0,.slice none 0 0,.slice none 0 0,.slice none 0 0,.int .i64 0] 58):=⟨_,rfl⟩
 have HX:Hid _:=hX
 have BX:Below w.heap.size w X:=by
  rw[hX]
  exact (((Below.refl _ w).alloc (Nat.le_refl _) _).alloc (by simp) _).alloc (by simp;omega) _
 have sX:X.heap.size=w.heap.size+3:=by rw[hX];simp
 have T1:Nine X w.heap.size 50 (.int .i64 H.half) (.int .i64 H.old) (.slice a1 H.row.length c1) (.int .i64 H.side) (.int .i64 H.top) (.slice a2 H.roots.length c2) (.slice a3 H.mourned.length c3) (.slice a4 H.seen.length c4) (.int .i64 H.seed):=by
  rw[hX]
  exact nine_below (nine_below (nine_mk w _ _ _ _ _ _ _ _ _ _) ((Below.refl _ _).alloc (Nat.le_refl _) _)) ((Below.refl _ _).alloc (Nat.le_refl _) _)
 have T2:Nine X (w.heap.size+1) 58 (.int .i64 0) (.int .i64 0) (.slice none 0 0) (.int .i64 0) (.int .i64 0) (.slice none 0 0) (.slice none 0 0) (.slice none 0 0) (.int .i64 0):=by
  rw[hX]
  have:=nine_mk (w.alloc (.cells #[.int .i64 H.half,.int .i64 H.old,.slice a1 H.row.length c1,.int .i64 H.side,.int .i64 H.top,.slice a2 H.roots.length c2,.slice a3 H.mourned.length c3,.slice a4 H.seen.length c4,.int .i64 H.seed] 50)) 58 (.int .i64 0) (.int .i64 0) (.slice none 0 0) (.int .i64 0) (.int .i64 0) (.slice none 0 0) (.slice none 0 0) (.slice none 0 0) (.int .i64 0)
  have:=nine_below this ((Below.refl _ _).alloc (Nat.le_refl _) (.cells #[.int .i64 H.half,.int .i64 H.old,.slice none 0 0,.int .i64 0,.int .i64 0,.slice none 0 0,.slice none 0 0,.slice none 0 0,.int .i64 0] 58))
  simpa using this
 have T3:Nine X (w.heap.size+1+1) 58 (.int .i64 H.half) (.int .i64 H.old) (.slice none 0 0) (.int .i64 0) (.int .i64 0) (.slice none 0 0) (.slice none 0 0) (.slice none 0 0) (.int .i64 0):=by
  rw[hX]
  have:=nine_mk ((w.alloc (.cells #[.int .i64 H.half,.int .i64 H.old,.slice a1 H.row.length c1,.int .i64 H.side,.int .i64 H.top,.slice a2 H.roots.length c2,.slice a3 H.mourned.length c3,.slice a4 H.seen.length c4,.int .i64 H.seed] 50)).alloc (.cells #[.int .i64 0,.int .i64 0,.slice none 0 0,.int .i64 0,.int .i64 0,.slice none 0 0,.slice none 0 0,.slice none 0 0,.int .i64 0] 58)) 58 (.int .i64 H.half) (.int .i64 H.old) (.slice none 0 0) (.int .i64 0) (.int .i64 0) (.slice none 0 0) (.slice none 0 0) (.slice none 0 0) (.int .i64 0)
  simpa using this
 have TI:=toInt64S_any (intsAt_below h.1 BX) l1
 have HA:Hid _:=h
 have g2:w.heap.size≤w.heap.size+1:=by omega
 have g3:w.heap.size≤w.heap.size+1+1:=by omega
 have n13:w.heap.size ∉ [w.heap.size+1+1]:=by simp;omega
 have n23:w.heap.size+1 ∉ [w.heap.size+1+1]:=by simp
 have m13:¬w.heap.size=w.heap.size+1+1:=by omega
 have sX3:w.heap.size+1+1<X.heap.size:=by omega
 have sX1:w.heap.size≤X.heap.size:=by omega
 clear hX h sX
 go_enter Tryz.func25,Tryz.ntmps25
 go_wp2_with fail
 rw[←HX.out]
 generalize hb3:w.heap.size+1+1=B3 at *
 generalize hb2:w.heap.size+1=B2 at *
 refine TI.mono ?_
 rintro e w2 ⟨rfl,F1,b2⟩
 clear TI HX
 have s2:=lt_of_block F1
 have U1:=nine_below T1 b2
 have U2:=nine_below T2 b2
 have U3:=nine_below T3 b2
 have BW:=BX.trans (b2.mono sX1)
 clear T1 T2 T3 BX b2
 generalize hQ1:X.heap.size=q1 at *
 have V3:=nine_set4 (nine_set3 (nine_set2 U3 (.slice (some ⟨q1,0,none⟩) H.row.length H.row.length)) (.int .i64 H.side)) (.int .i64 H.top)
 have C3:=((one_ch w2 B3 2 (.slice (some ⟨q1,0,none⟩) H.row.length H.row.length)).trans (one_ch _ B3 3 (.int .i64 H.side))).trans (one_ch _ B3 4 (.int .i64 H.top))
 have V1:=nine_ch U1 C3 n13
 have V2:=nine_ch U2 C3 n23
 have F1':=full_ch F1 C3 (by simp;omega)
 have BW':=((BW.setCell (p:=⟨B3,2,none⟩) g3 (.slice (some ⟨q1,0,none⟩) H.row.length H.row.length)).setCell (p:=⟨B3,3,none⟩) g3 (.int .i64 H.side)).setCell (p:=⟨B3,4,none⟩) g3 (.int .i64 H.top)
 have sY:(((w2.setCell ⟨B3,2,none⟩ (.slice (some ⟨q1,0,none⟩) H.row.length H.row.length)).setCell ⟨B3,3,none⟩ (.int .i64 H.side)).setCell ⟨B3,4,none⟩ (.int .i64 H.top)).heap.size=w2.heap.size:=by simp
 have TI:=toInt64S_any (intsAt_below HA.out.2.1 BW') l2
 obtain⟨⟨k0,k1,k2,k3,k4⟩,⟨k5,k6,k7,k8⟩,_⟩:=nine_cells U1
 obtain⟨⟨j0,j1,j2,j3,j4⟩,⟨j5,j6,j7,j8⟩,jf⟩:=nine_cells U3
 have f2:=jf 2
 have f3:=jf 3
 have f4:=jf 4
 have HV1:Hid _:=V1
 have HV2:Hid _:=V2
 have HV3:Hid _:=V3
 have HF1:Hid _:=F1'
 have HB:Hid _:=BW'
 clear U1 U2 U3 V1 V2 V3 F1 F1' C3 BW BW' jf
 go_wp2_with fail
 generalize hY:(((w2.setCell ⟨B3,2,none⟩ (.slice (some ⟨q1,0,none⟩) H.row.length H.row.length)).setCell ⟨B3,3,none⟩ (.int .i64 H.side)).setCell ⟨B3,4,none⟩ (.int .i64 H.top))=Y at *
 have sY1:w2.heap.size≤Y.heap.size:=by omega
 clear sY hY k0 k1 k2 k3 k4 k5 k6 k7 k8 j0 j1 j2 j3 j4 j5 j6 j7 j8 f2 f3 f4
 refine TI.mono ?_
 rintro e w3 ⟨rfl,F2,b3⟩
 clear TI
 have s3:=lt_of_block F2
 have U1:=nine_below HV1.out b3
 have U2:=nine_below HV2.out b3
 have U3:=nine_below HV3.out b3
 have G1:=full_belo HF1.out b3
 have BW:=HB.out.trans (b3.mono HB.out.size)
 clear HV1 HV2 HV3 HF1 HB b3
 generalize hQ2:Y.heap.size=q2 at *
 have V3:=nine_set5 U3 (.slice (some ⟨q2,0,none⟩) H.roots.length H.roots.length)
 have C3:=one_ch w3 B3 5 (.slice (some ⟨q2,0,none⟩) H.roots.length H.roots.length)
 have V1:=nine_ch U1 C3 n13
 have V2:=nine_ch U2 C3 n23
 have F1':=full_ch G1 C3 (by simp;omega)
 have F2':=full_ch F2 C3 (by simp;omega)
 have BW':=BW.setCell (p:=⟨B3,5,none⟩) g3 (.slice (some ⟨q2,0,none⟩) H.roots.length H.roots.length)
 have sZ:(w3.setCell ⟨B3,5,none⟩ (.slice (some ⟨q2,0,none⟩) H.roots.length H.roots.length)).heap.size=w3.heap.size:=by simp
 have TI:=toInt64S_any (intsAt_below HA.out.2.2.1 BW') l3
 obtain⟨⟨k0,k1,k2,k3,k4⟩,⟨k5,k6,k7,k8⟩,_⟩:=nine_cells U1
 obtain⟨⟨j0,j1,j2,j3,j4⟩,⟨j5,j6,j7,j8⟩,jf⟩:=nine_cells U3
 have f5:=jf 5
 have HV1:Hid _:=V1
 have HV2:Hid _:=V2
 have HV3:Hid _:=V3
 have HF1:Hid _:=F1'
 have HF2:Hid _:=F2'
 have HB:Hid _:=BW'
 clear U1 U2 U3 V1 V2 V3 G1 F1' F2 F2' C3 BW BW' jf
 go_wp2_with fail
 generalize hZ:(w3.setCell ⟨B3,5,none⟩ (.slice (some ⟨q2,0,none⟩) H.roots.length H.roots.length))=Z at *
 have sZ1:w3.heap.size≤Z.heap.size:=by omega
 clear sZ hZ k0 k1 k2 k3 k4 k5 k6 k7 k8 j0 j1 j2 j3 j4 j5 j6 j7 j8 f5
 refine TI.mono ?_
 rintro e w4 ⟨rfl,F3,b4⟩
 clear TI
 have s4:=lt_of_block F3
 have U1:=nine_below HV1.out b4
 have U2:=nine_below HV2.out b4
 have U3:=nine_below HV3.out b4
 have G1:=full_belo HF1.out b4
 have G2:=full_belo HF2.out b4
 have BW:=HB.out.trans (b4.mono HB.out.size)
 clear HV1 HV2 HV3 HF1 HF2 HB b4
 generalize hQ3:Z.heap.size=q3 at *
 have V3:=nine_set6 U3 (.slice (some ⟨q3,0,none⟩) H.mourned.length H.mourned.length)
 have C3:=one_ch w4 B3 6 (.slice (some ⟨q3,0,none⟩) H.mourned.length H.mourned.length)
 have V1:=nine_ch U1 C3 n13
 have V2:=nine_ch U2 C3 n23
 have F1':=full_ch G1 C3 (by simp;omega)
 have F2':=full_ch G2 C3 (by simp;omega)
 have F3':=full_ch F3 C3 (by simp;omega)
 have BW':=BW.setCell (p:=⟨B3,6,none⟩) g3 (.slice (some ⟨q3,0,none⟩) H.mourned.length H.mourned.length)
 have sV:(w4.setCell ⟨B3,6,none⟩ (.slice (some ⟨q3,0,none⟩) H.mourned.length H.mourned.length)).heap.size=w4.heap.size:=by simp
 have TI:=toInt64S_any (intsAt_below HA.out.2.2.2 BW') l4
 obtain⟨⟨k0,k1,k2,k3,k4⟩,⟨k5,k6,k7,k8⟩,_⟩:=nine_cells U1
 obtain⟨⟨j0,j1,j2,j3,j4⟩,⟨j5,j6,j7,j8⟩,jf⟩:=nine_cells U3
 have f6:=jf 6
 have HV1:Hid _:=V1
 have HV2:Hid _:=V2
 have HV3:Hid _:=V3
 have HF1:Hid _:=F1'
 have HF2:Hid _:=F2'
 have HF3:Hid _:=F3'
 have HB:Hid _:=BW'
 clear U1 U2 U3 V1 V2 V3 G1 G2 F1' F2' F3 F3' C3 BW BW' jf HA
 go_wp2_with fail
 generalize hV:(w4.setCell ⟨B3,6,none⟩ (.slice (some ⟨q3,0,none⟩) H.mourned.length H.mourned.length))=V at *
 have sV1:w4.heap.size≤V.heap.size:=by omega
 clear sV hV k0 k1 k2 k3 k4 k5 k6 k7 k8 j0 j1 j2 j3 j4 j5 j6 j7 j8 f6
 refine TI.mono ?_
 rintro e w5 ⟨rfl,F4,b5⟩
 clear TI
 have s5:=lt_of_block F4
 have U1:=nine_below HV1.out b5
 have U2:=nine_below HV2.out b5
 have U3:=nine_below HV3.out b5
 have G1:=full_belo HF1.out b5
 have G2:=full_belo HF2.out b5
 have G3:=full_belo HF3.out b5
 have BW:=HB.out.trans (b5.mono HB.out.size)
 clear HV1 HV2 HV3 HF1 HF2 HF3 HB b5
 generalize hQ4:V.heap.size=q4 at *
 obtain⟨Y5,hY5⟩:∃Y5,Y5=(w5.setCell ⟨B3,7,none⟩ (.slice (some ⟨q4,0,none⟩) H.seen.length H.seen.length)).setCell ⟨B3,8,none⟩ (.int .i64 H.seed):=⟨_,rfl⟩
 have C5:Ch [B3] w5 Y5:=by rw[hY5];exact (one_ch _ _ _ _).trans (one_ch _ _ _ _)
 have V2:=nine_ch U2 C5 n23
 have W:=nine_sets V2 (.int .i64 H.half) (.int .i64 H.old) (.slice (some ⟨q1,0,none⟩) H.row.length H.row.length) (.int .i64 H.side) (.int .i64 H.top) (.slice (some ⟨q2,0,none⟩) H.roots.length H.roots.length) (.slice (some ⟨q3,0,none⟩) H.mourned.length H.mourned.length) (.slice (some ⟨q4,0,none⟩) H.seen.length H.seen.length) (.int .i64 H.seed)
 have C7:=(C5.mono (T:=[B2,B3]) (fun k hk=>by rw[List.mem_singleton]at hk;rw[hk];simp)).trans ((nine_other (X:=Y5) (b:=B2) (.int .i64 H.half) (.int .i64 H.old) (.slice (some ⟨q1,0,none⟩) H.row.length H.row.length) (.int .i64 H.side) (.int .i64 H.top) (.slice (some ⟨q2,0,none⟩) H.roots.length H.roots.length) (.slice (some ⟨q3,0,none⟩) H.mourned.length H.mourned.length) (.slice (some ⟨q4,0,none⟩) H.seen.length H.seen.length) (.int .i64 H.seed)).mono (T:=[B2,B3]) (fun k hk=>by rw[List.mem_singleton]at hk;rw[hk];simp))
 have far:∀k,q1≤k→k ∉ [B2,B3]:=fun k hk e=>by simp only[List.mem_cons,List.not_mem_nil,or_false]at e;omega
 have R1:=full_ch G1 C7 (far q1 (by omega))
 have R2:=full_ch G2 C7 (far q2 (by omega))
 have R3:=full_ch G3 C7 (far q3 (by omega))
 have R4:=full_ch F4 C7 (far q4 (by omega))
 have B7:Below w.heap.size w _:=nine_belows (show Below w.heap.size w Y5 by rw[hY5];exact (BW.setCell (p:=⟨B3,7,none⟩) g3 _).setCell (p:=⟨B3,8,none⟩) g3 _) g2 (.int .i64 H.half) (.int .i64 H.old) (.slice (some ⟨q1,0,none⟩) H.row.length H.row.length) (.int .i64 H.side) (.int .i64 H.top) (.slice (some ⟨q2,0,none⟩) H.roots.length H.roots.length) (.slice (some ⟨q3,0,none⟩) H.mourned.length H.mourned.length) (.slice (some ⟨q4,0,none⟩) H.seen.length H.seen.length) (.int .i64 H.seed)
 have ND:(hblk (.slice (some ⟨q1,0,none⟩) H.row.length H.row.length) (.slice (some ⟨q2,0,none⟩) H.roots.length H.roots.length) (.slice (some ⟨q3,0,none⟩) H.mourned.length H.mourned.length) (.slice (some ⟨q4,0,none⟩) H.seen.length H.seen.length)).Nodup:=by
  show ([q1]++[q2]++[q3]++[q4]).Nodup
  simp
  omega
 have OG:OwnH _ w.heap.size _ _ _ _ H:=⟨⟨full_own (base:=w.heap.size) R1 (by omega) (by unfold maxLen;omega),full_own (base:=w.heap.size) R2 (by omega) (by unfold maxLen;omega),full_own (base:=w.heap.size) R3 (by omega) (by unfold maxLen;omega),full_own (base:=w.heap.size) R4 (by omega) (by unfold maxLen;omega)⟩,ND⟩
 obtain⟨⟨k0,k1,k2,k3,k4⟩,⟨k5,k6,k7,k8⟩,_⟩:=nine_cells U1
 obtain⟨⟨j0,j1,j2,j3,j4⟩,⟨j5,j6,j7,j8⟩,jf⟩:=nine_cells U3
 obtain⟨⟨i0,i1,i2,i3,i4⟩,⟨i5,i6,i7,i8⟩,iF⟩:=nine_cells U2
 have f7:=jf 7
 have f8:=jf 8
 have d0:=iF 0
 have d1:=iF 1
 have d2:=iF 2
 have d3:=iF 3
 have d4:=iF 4
 have d5:=iF 5
 have d6:=iF 6
 have d7:=iF 7
 have d8:=iF 8
 have HOG:Hid _:=OG
 have HW:Hid _:=W
 have HB7:Hid _:=B7
 have HY5:Hid _:=hY5
 clear R1 R2 R3 R4 B7 ND OG W C5 C7 V2 U1 U2 U3 G1 G2 G3 F4 BW far jf iF hY5
 go_wp2
 rw[HY5.out]at HW HOG HB7
 exact bodyPost_ret (res_heap rfl rfl HW.out) rfl ⟨_,_,_,_,rfl,HOG.out,HB7.out⟩
set_option maxHeartbeats 2000000 in
theorem szInt64S_any {w:World} {v:Value} {xs:List Int} (h:IntsAt w v xs) (left:Nat) (hl:left≤1048576) :
    Calls Tryz.prog 59 #[v,.int .i64 left] w fun e w'=>e = .returned (.int .i64 (if xs.length≤left then (left:Int)-xs.length else -1))∧w'=w:=by
 obtain⟨a,cap,rfl,hlc,hcm,_,_⟩:=h
 have hm:xs.length≤9223372036854775807:=by unfold maxLen at hcm;omega
 by_cases d:xs.length≤left
 ·rw[if_pos d]
  have d1:¬(left:Int)-(xs.length:Int)<0:=by omega
  go_enter Tryz.func59,Tryz.ntmps59
  go_wp2
  go_ret
  exact⟨by first|rfl|go_num,rfl⟩
 ·rw[if_neg d]
  have d1:(left:Int)-(xs.length:Int)<0:=by omega
  go_enter Tryz.func59,Tryz.ntmps59
  go_wp2
  go_ret
  exact⟨by first|rfl|go_num,rfl⟩
set_option maxHeartbeats 4000000 in
theorem szHeap_any {w:World} {vr vo vm vs:Value} {H:Hp} (h:HpAt w vr vo vm vs H) (left:Nat) (hleft:left≤1048576) :
    Calls Tryz.prog 22 #[hpv H vr vo vm vs,.int .i64 left] w fun e w'=>e = .returned (.int .i64 (if hpSize H≤left then (left:Int)-hpSize H else -1))∧Below w.heap.size w w':=by
 obtain⟨a1,c1,a2,c2,a3,c3,a4,c4,e1,e2,e3,e4⟩:=hpAt_slices h
 subst e1 e2 e3 e4
 have B:Below w.heap.size w (w.alloc (.cells #[.int .i64 H.half,.int .i64 H.old,.slice a1 H.row.length c1,.int .i64 H.side,.int .i64 H.top,.slice a2 H.roots.length c2,.slice a3 H.mourned.length c3,.slice a4 H.seen.length c4,.int .i64 H.seed] 50)):=(Below.refl _ w).alloc (Nat.le_refl _) _
 obtain⟨⟨k0,k1,k2,k3,k4⟩,⟨k5,k6,k7,k8⟩,_⟩:=nine_cells (nine_mk w 50 (.int .i64 H.half) (.int .i64 H.old) (.slice a1 H.row.length c1) (.int .i64 H.side) (.int .i64 H.top) (.slice a2 H.roots.length c2) (.slice a3 H.mourned.length c3) (.slice a4 H.seen.length c4) (.int .i64 H.seed))
 obtain⟨h1,h2,h3,h4⟩:=hpAt_below h B
 obtain⟨RV,hRV⟩:∃RV:Int,(if hpSize H≤left then (left:Int)-hpSize H else -1)=RV:=⟨_,rfl⟩
 rw[hRV]
 have HRV:Hid _:=hRV
 have HB:Hid _:=B
 have S1:=szInt64S_any h1 left hleft
 clear B hRV h h1
 by_cases d1:H.row.length≤left
 case neg=>
  rw[if_neg d1]at S1
  have ER:Hid (RV = -1):=by show RV=_;rw[←HRV.out,if_neg (by unfold hpSize;omega)]
  clear HRV h2 h3 h4
  go_enter Tryz.func22,Tryz.ntmps22
  go_wp2_with (go_at_call 59;refine S1.mono ?_;clear S1;rintro e w3 ⟨rfl,hw3⟩;rw[hw3];clear hw3 w3)
  go_ret
  exact⟨by rw[ER.out];rfl,HB⟩
 rw[if_pos d1]at S1
 obtain⟨l1,hl1⟩:∃l1:Nat,(left:Int)-(H.row.length:Int)=(l1:Int):=⟨left-H.row.length,by omega⟩
 rw[hl1]at S1
 have p1:¬(l1:Int)<0:=by omega
 have S2:=szInt64S_any h2 l1 (by omega)
 clear h2
 by_cases d2:H.roots.length≤l1
 case neg=>
  rw[if_neg d2]at S2
  have ER:Hid (RV = -1):=by show RV=_;rw[←HRV.out,if_neg (by unfold hpSize;omega)]
  clear HRV h3 h4 hl1
  go_enter Tryz.func22,Tryz.ntmps22
  go_wp2_with (first
   |(have hh:=S1;clear hh;go_at_call 59;refine S1.mono ?_;clear S1;rintro e w3 ⟨rfl,hw3⟩;rw[hw3];clear hw3 w3)
   |(have hh:=S2;clear hh;go_at_call 59;refine S2.mono ?_;clear S2;rintro e w3 ⟨rfl,hw3⟩;rw[hw3];clear hw3 w3))
  go_ret
  exact⟨by rw[ER.out];rfl,HB⟩
 rw[if_pos d2]at S2
 obtain⟨l2,hl2⟩:∃l2:Nat,(l1:Int)-(H.roots.length:Int)=(l2:Int):=⟨l1-H.roots.length,by omega⟩
 rw[hl2]at S2
 have p2:¬(l2:Int)<0:=by omega
 have S3:=szInt64S_any h3 l2 (by omega)
 clear h3
 by_cases d3:H.mourned.length≤l2
 case neg=>
  rw[if_neg d3]at S3
  have ER:Hid (RV = -1):=by show RV=_;rw[←HRV.out,if_neg (by unfold hpSize;omega)]
  clear HRV h4 hl1 hl2
  go_enter Tryz.func22,Tryz.ntmps22
  go_wp2_with (first
   |(have hh:=S1;clear hh;go_at_call 59;refine S1.mono ?_;clear S1;rintro e w3 ⟨rfl,hw3⟩;rw[hw3];clear hw3 w3)
   |(have hh:=S2;clear hh;go_at_call 59;refine S2.mono ?_;clear S2;rintro e w3 ⟨rfl,hw3⟩;rw[hw3];clear hw3 w3)
   |(have hh:=S3;clear hh;go_at_call 59;refine S3.mono ?_;clear S3;rintro e w3 ⟨rfl,hw3⟩;rw[hw3];clear hw3 w3))
  go_ret
  exact⟨by rw[ER.out];rfl,HB⟩
 rw[if_pos d3]at S3
 obtain⟨l3,hl3⟩:∃l3:Nat,(l2:Int)-(H.mourned.length:Int)=(l3:Int):=⟨l2-H.mourned.length,by omega⟩
 rw[hl3]at S3
 have p3:¬(l3:Int)<0:=by omega
 have S4:=szInt64S_any h4 l3 (by omega)
 clear h4
 by_cases d4:H.seen.length≤l3
 ·rw[if_pos d4]at S4
  obtain⟨l4,hl4⟩:∃l4:Nat,(l3:Int)-(H.seen.length:Int)=(l4:Int):=⟨l3-H.seen.length,by omega⟩
  rw[hl4]at S4
  have p4:¬(l4:Int)<0:=by omega
  have ER:Hid (RV=(l4:Int)):=by show RV=_;rw[←HRV.out,if_pos (by unfold hpSize;omega)];unfold hpSize;omega
  clear HRV hl1 hl2 hl3 hl4
  go_enter Tryz.func22,Tryz.ntmps22
  go_wp2_with (first
   |(have hh:=S1;clear hh;go_at_call 59;refine S1.mono ?_;clear S1;rintro e w3 ⟨rfl,hw3⟩;rw[hw3];clear hw3 w3)
   |(have hh:=S2;clear hh;go_at_call 59;refine S2.mono ?_;clear S2;rintro e w3 ⟨rfl,hw3⟩;rw[hw3];clear hw3 w3)
   |(have hh:=S3;clear hh;go_at_call 59;refine S3.mono ?_;clear S3;rintro e w3 ⟨rfl,hw3⟩;rw[hw3];clear hw3 w3)
   |(have hh:=S4;clear hh;go_at_call 59;refine S4.mono ?_;clear S4;rintro e w3 ⟨rfl,hw3⟩;rw[hw3];clear hw3 w3))
  go_ret
  exact⟨by rw[ER.out];rfl,HB⟩
 ·rw[if_neg d4]at S4
  have ER:Hid (RV = -1):=by show RV=_;rw[←HRV.out,if_neg (by unfold hpSize;omega)]
  clear HRV hl1 hl2 hl3
  go_enter Tryz.func22,Tryz.ntmps22
  go_wp2_with (first
   |(have hh:=S1;clear hh;go_at_call 59;refine S1.mono ?_;clear S1;rintro e w3 ⟨rfl,hw3⟩;rw[hw3];clear hw3 w3)
   |(have hh:=S2;clear hh;go_at_call 59;refine S2.mono ?_;clear S2;rintro e w3 ⟨rfl,hw3⟩;rw[hw3];clear hw3 w3)
   |(have hh:=S3;clear hh;go_at_call 59;refine S3.mono ?_;clear S3;rintro e w3 ⟨rfl,hw3⟩;rw[hw3];clear hw3 w3)
   |(have hh:=S4;clear hh;go_at_call 59;refine S4.mono ?_;clear S4;rintro e w3 ⟨rfl,hw3⟩;rw[hw3];clear hw3 w3))
  go_ret
  exact⟨by rw[ER.out];rfl,HB⟩
set_option maxHeartbeats 4000000 in
theorem eqHeap_same {w:World} {vr vo vm vs ur uo um us:Value} {H:Hp} (h:HpAt w vr vo vm vs H) (h':HpAt w ur uo um us H) (hs:hpSize H≤1048576) :
    Calls Tryz.prog 28 #[hpv H vr vo vm vs,hpv H ur uo um us] w fun e w'=>e = .returned (.bool true)∧Below w.heap.size w w':=by
 obtain⟨l1,l2,l3,l4⟩:=hp_parts hs
 have B:Below w.heap.size w ((w.alloc (hpb H vr vo vm vs)).alloc (hpb H ur uo um us)):=((Below.refl _ w).alloc (Nat.le_refl _) _).alloc (by simp) _
 have T1:Nine ((w.alloc (hpb H vr vo vm vs)).alloc (hpb H ur uo um us)) w.heap.size 58 (.int .i64 H.half) (.int .i64 H.old) vr (.int .i64 H.side) (.int .i64 H.top) vo vm vs (.int .i64 H.seed):=nine_below (nine_mk w _ _ _ _ _ _ _ _ _ _) ((Below.refl _ _).alloc (Nat.le_refl _) _)
 have T2:Nine ((w.alloc (hpb H vr vo vm vs)).alloc (hpb H ur uo um us)) (w.heap.size+1) 58 (.int .i64 H.half) (.int .i64 H.old) ur (.int .i64 H.side) (.int .i64 H.top) uo um us (.int .i64 H.seed):=by
  have:=nine_mk (w.alloc (hpb H vr vo vm vs)) 58 (.int .i64 H.half) (.int .i64 H.old) ur (.int .i64 H.side) (.int .i64 H.top) uo um us (.int .i64 H.seed)
  simpa using this
 have A1:=hpAt_below h B
 have A2:=hpAt_below h' B
 obtain⟨a1,c1,a2,c2,a3,c3,a4,c4,e1,e2,e3,e4⟩:=hpAt_slices h
 obtain⟨b1,d1,b2,d2,b3,d3,b4,d4,f1,f2,f3,f4⟩:=hpAt_slices h'
 subst e1 e2 e3 e4 f1 f2 f3 f4
 have i1:(H.half != H.half)=false:=by simp
 have i2:(H.old != H.old)=false:=by simp
 have i3:(H.side != H.side)=false:=by simp
 have i4:(H.top != H.top)=false:=by simp
 have i5:(H.seed != H.seed)=false:=by simp
 have E1:=eqInt64S_any A1.1 A2.1 l1
 have E2:=fun n=>eqInt64S_any (intsAt_drewN (n:=n) A1.2.1) (intsAt_drewN (n:=n) A2.2.1) l2
 have E3:=fun n=>eqInt64S_any (intsAt_drewN (n:=n) A1.2.2.1) (intsAt_drewN (n:=n) A2.2.2.1) l3
 have E4:=fun n=>eqInt64S_any (intsAt_drewN (n:=n) A1.2.2.2) (intsAt_drewN (n:=n) A2.2.2.2) l4
 rw[decide_eq_true (rfl:H.row=H.row)]at E1
 simp only[decide_true]at E2 E3 E4
 obtain⟨⟨k0,k1,k2,k3,k4⟩,⟨k5,k6,k7,k8⟩,_⟩:=nine_cells T1
 obtain⟨⟨j0,j1,j2,j3,j4⟩,⟨j5,j6,j7,j8⟩,_⟩:=nine_cells T2
 have HB:Hid _:=B
 clear B h h' T1 T2 A1 A2
 go_enter Tryz.func28,Tryz.ntmps28
 go_wp2_with fail
 generalize hX:((w.alloc (hpb H (.slice a1 H.row.length c1) (.slice a2 H.roots.length c2) (.slice a3 H.mourned.length c3) (.slice a4 H.seen.length c4))).alloc (hpb H (.slice b1 H.row.length d1) (.slice b2 H.roots.length d2) (.slice b3 H.mourned.length d3) (.slice b4 H.seen.length d4)))=X at *
 clear hX
 refine E1.mono ?_
 clear E1
 rintro e w3 ⟨rfl,n1,hw3⟩
 rw[hw3]
 clear hw3 w3
 go_wp2_with (first
  |(have hh:=E2;clear hh;go_at_call 69;refine (E2 _).mono ?_;clear E2;rintro e w3 ⟨rfl,n2,hw3⟩;rw[hw3];clear hw3 w3)
  |(have hh:=E3;clear hh;go_at_call 69;refine (E3 _).mono ?_;clear E3;rintro e w3 ⟨rfl,n3,hw3⟩;rw[hw3];clear hw3 w3)
  |(have hh:=E4;clear hh;go_at_call 69;refine (E4 _).mono ?_;clear E4;rintro e w3 ⟨rfl,n4,hw3⟩;rw[hw3];clear hw3 w3))
 go_ret
 exact⟨rfl,⟨HB.out.os,HB.out.tape,HB.out.output,HB.out.size,HB.out.block⟩⟩
end Go.Proofs.YtkiognecebgaiaaGreatDoor.hp
namespace Go.Proofs.YtkiognecebgaiaaGreatDoor.hp
open Go.RowKit rows heads words walks
set_option maxRecDepth 100000
set_option maxHeartbeats 4000000 in
theorem l1Has_any {w:World} {v:Value} {xs:List Int} (h:IntsAt w v xs) (hl:xs.length≤1048576) (n:Int) :
    Calls Tryz.prog 99 #[v,.int .i64 n] w fun e w'=>e = .returned (.bool (decide (n ∈ xs)))∧w'=w:=by
 obtain⟨a,cap,rfl,hlc,hcm,_,hc⟩:=h
 have HC:Hid _:=hc
 obtain⟨RV,hRV⟩:∃RV,decide (n ∈ xs)=RV:=⟨_,rfl⟩
 rw[hRV]
 have HRV:Hid _:=hRV
 clear hc hRV
 go_enter Tryz.func99,Tryz.ntmps99
 go_wp2_with fail
 go_loopw [5] (fun p wr=>∃k:Nat,k≤xs.length∧p = .int .i64 k∧(∀j,j<k→¬xs.getD j 0=n)∧wr=w) (fun p _=>xs.length-(intOf p).toNat)
 case atStart=>exact⟨0,Nat.zero_le _,rfl,fun j hj=>by omega,rfl⟩
 case round=>
  obtain⟨k,hk,rfl,hne,hw⟩:=hrel
  subst hw
  by_cases hlt:k<xs.length
  ·obtain⟨b,off,rfl,hb,hcc⟩:=HC.out (by omega)
   have c0:=hcc k hlt
   have hget:xs.getD k 0 ∈ xs:=by
    rw[List.getD_eq_getElem?_getD,List.getElem?_eq_getElem hlt]
    exact List.getElem_mem hlt
   by_cases hy:xs.getD k 0=n
   ·have HV:Hid (RV=true):=by show _=_;rw[←HRV.out,decide_eq_true_eq,←hy];exact hget
    have hy':(xs.getD k 0==n)=true:=by simpa using hy
    clear hcc HC hne hget hy
    generalize xs.getD k 0=y at *
    go_wp2
    go_ret
    exact⟨by rw[HV.out];rfl,rfl⟩
   ·have HV:Hid (∀j,j<k+1→¬xs.getD j 0=n):=fun j hj=>by
      by_cases e:j=k
      ·rw[e];exact hy
      ·exact hne j (by omega)
    have hy':(xs.getD k 0==n)=false:=by simpa using hy
    clear hcc HC hne hget hy
    generalize xs.getD k 0=y at *
    go_wp2
    exact⟨⟨k+1,by omega,by go_num,HV,by trivial⟩,by simp[intOf];omega⟩
  ·have HV:Hid (RV=false):=by
     show _=_
     rw[←HRV.out,decide_eq_false_iff_not]
     intro hm
     obtain⟨i,hi,e⟩:=List.getElem_of_mem hm
     refine hne i (by omega) ?_
     rw[List.getD_eq_getElem?_getD,List.getElem?_eq_getElem hi]
     exact e
   clear HC hne HRV
   go_wp2
   go_ret
   exact⟨by rw[HV.out];rfl,rfl⟩
end Go.Proofs.YtkiognecebgaiaaGreatDoor.hp
namespace Go.Proofs.YtkiognecebgaiaaGreatDoor.hp
open Go.RowKit rows heads words walks
set_option maxRecDepth 100000
set_option linter.unusedVariables false
def wordIn (H:Hp) (ps:List Int) (x:Int):Bool:=isW x&&(!(isA x) || (decide (av x ∈ ps) && !(uF (H.row.getD (av x).toNat 0)==6)))
set_option maxHeartbeats 4000000 in
theorem l9Word_any {w:World} {vr vo vm vs vp:Value} {H:Hp} (h:HpAt w vr vo vm vs H) {ps:List Int} (hp:IntsAt w vp ps) (hpl:ps.length≤1048576) (hP:Plc H ps) (x:Int) :
    Calls Tryz.prog 125 #[hpv H vr vo vm vs,vp,.int .i64 x] w fun e w'=>e = .returned (.bool (wordIn H ps x))∧Below w.heap.size w w':=by
 obtain⟨a1,c1,a2,c2,a3,c3,a4,c4,e1,e2,e3,e4⟩:=hpAt_slices h
 subst e1 e2 e3 e4
 have hp':=hp
 obtain⟨ap,cp,rfl,_,_,_,_⟩:=hp
 have B0:Below w.heap.size w (w.alloc (hpb H (.slice a1 H.row.length c1) (.slice a2 H.roots.length c2) (.slice a3 H.mourned.length c3) (.slice a4 H.seen.length c4))):=(Below.refl _ _).alloc (Nat.le_refl _) _
 obtain⟨⟨z0,z1,z2,z3,z4⟩,⟨z5,z6,z7,z8⟩,_⟩:=nine_cells (nine_new w H (.slice a1 H.row.length c1) (.slice a2 H.roots.length c2) (.slice a3 H.mourned.length c3) (.slice a4 H.seen.length c4))
 have HB0:Hid _:=B0
 have LH:=l1Has_any (w:=w.alloc (hpb H (.slice a1 H.row.length c1) (.slice a2 H.roots.length c2) (.slice a3 H.mourned.length c3) (.slice a4 H.seen.length c4))) (intsAt_below hp' B0) hpl (av x)
 unfold wordIn
 cases dW:isW x
 ·rw[Bool.false_and]
  clear LH
  go_enter Tryz.func125,Tryz.ntmps125
  go_wp2_with (go_at_call 148;refine (sWordOk_any _ _).mono ?_;rintro e w3 ⟨rfl,hw3⟩;rw[hw3,dW];clear hw3 w3)
  go_ret
  exact⟨rfl,HB0.out⟩
 ·rw[Bool.true_and]
  cases dA:isA x
  ·clear LH
   go_enter Tryz.func125,Tryz.ntmps125
   go_wp2_with (first|(go_at_call 148;refine (sWordOk_any _ _).mono ?_;rintro e w3 ⟨rfl,hw3⟩;rw[hw3,dW];clear hw3 w3)|(go_at_call 97;refine (sAddrOf_any _ _).mono ?_;rintro e w3 ⟨rfl,hw3⟩;rw[hw3,dA];clear hw3 w3))
   go_ret
   exact⟨rfl,HB0.out⟩
  ·cases dM:decide (av x ∈ ps)
   ·rw[dM]at LH
    rw[Bool.false_and,Bool.or_false,Bool.not_true]
    go_enter Tryz.func125,Tryz.ntmps125
    go_wp2_with (first|(go_at_call 148;refine (sWordOk_any _ _).mono ?_;rintro e w3 ⟨rfl,hw3⟩;rw[hw3,dW];clear hw3 w3)|(go_at_call 97;refine (sAddrOf_any _ _).mono ?_;rintro e w3 ⟨rfl,hw3⟩;rw[hw3,dA];clear hw3 w3)|(go_at_call 99;refine LH.mono ?_;clear LH;rintro e w3 ⟨rfl,hw3⟩;rw[hw3];clear hw3 w3))
    go_ret
    exact⟨rfl,HB0.out⟩
   ·rw[dM]at LH
    rw[Bool.true_and,Bool.not_true,Bool.false_or]
    obtain⟨j,hj,hjl⟩:=hP _ (of_decide_eq_true dM)
    have L4:=l4Head_any (intsAt_below h.1 B0) j hjl
    rw[hj,Int.toNat_natCast]
    unfold hw at L4
    have SA:=sAddrOf_any x
    rw[hj]at LH SA
    generalize uF (H.row.getD j 0)=f at *
    generalize uS (H.row.getD j 0)=s at *
    generalize uC (H.row.getD j 0)=c at *
    generalize uH (H.row.getD j 0)=g at *
    generalize uP (H.row.getD j 0)=p at *
    generalize uM (H.row.getD j 0)=m at *
    have FF:=field_format s f c g p m
    have hb:(f != 6) = !(f==6):=rfl
    clear B0 dM h hp'
    go_enter Tryz.func125,Tryz.ntmps125
    go_wp2_with (first|(go_at_call 148;refine (sWordOk_any _ _).mono ?_;rintro e w3 ⟨rfl,hw3⟩;rw[hw3,dW];clear hw3 w3)|(go_at_call 97;refine (SA _).mono ?_;clear SA;rintro e w3 ⟨rfl,hw3⟩;rw[hw3,dA];clear hw3 w3)|(go_at_call 99;refine LH.mono ?_;clear LH;rintro e w3 ⟨rfl,hw3⟩;rw[hw3];clear hw3 w3)|(go_at_call 100;refine L4.mono ?_;clear L4;rintro e w3 ⟨rfl,b3⟩;have HB3:Hid _:=HB0.out.trans (b3.mono HB0.out.size);clear b3))
    go_ret
    exact⟨by rw[←hb];rfl,HB3.out⟩
def youngB (H:Hp) (x:Int):Bool:=isA x&&decide (av x<2*H.half)
theorem av_small (x:Int) (h:isA x=true):0≤av x∧av x≤999:=by
 have e:av x=x / 4-1:=by unfold av;simp[h]
 simp only[isA,Bool.and_eq_true,decide_eq_true_eq]at h
 omega
set_option maxHeartbeats 2000000 in
theorem l9Young_any {w:World} {vr vo vm vs:Value} {H:Hp} (h:HpAt w vr vo vm vs H) (h0 : -1000≤H.half∧H.half≤1000) (x:Int) :
    Calls Tryz.prog 128 #[hpv H vr vo vm vs,.int .i64 x] w fun e w'=>e = .returned (.bool (youngB H x))∧Below w.heap.size w w':=by
 obtain⟨a1,c1,a2,c2,a3,c3,a4,c4,e1,e2,e3,e4⟩:=hpAt_slices h
 subst e1 e2 e3 e4
 have HB0:Hid (Below w.heap.size w (w.alloc (hpb H (.slice a1 H.row.length c1) (.slice a2 H.roots.length c2) (.slice a3 H.mourned.length c3) (.slice a4 H.seen.length c4)))):=(Below.refl _ _).alloc (Nat.le_refl _) _
 obtain⟨⟨z0,z1,z2,z3,z4⟩,⟨z5,z6,z7,z8⟩,_⟩:=nine_cells (nine_new w H (.slice a1 H.row.length c1) (.slice a2 H.roots.length c2) (.slice a3 H.mourned.length c3) (.slice a4 H.seen.length c4))
 unfold youngB
 have SA:=sAddrOf_any x
 cases dA:isA x
 ·rw[dA]at SA
  rw[Bool.false_and]
  clear h
  go_enter Tryz.func128,Tryz.ntmps128
  go_wp2_with (go_at_call 97;refine (SA _).mono ?_;clear SA;rintro e w3 ⟨rfl,hw3⟩;rw[hw3];clear hw3 w3)
  go_ret
  exact⟨rfl,HB0.out⟩
 ·rw[dA]at SA
  rw[Bool.true_and]
  have hs:=av_small x dA
  generalize av x=a at *
  clear h dA
  go_enter Tryz.func128,Tryz.ntmps128
  go_wp2_with (go_at_call 97;refine (SA _).mono ?_;clear SA;rintro e w3 ⟨rfl,hw3⟩;rw[hw3];clear hw3 w3)
  go_ret
  exact⟨rfl,HB0.out⟩
def endsL (H:Hp):Nat→Int→Bool
 |0,_=>false
 |n+1,p=>if uF (H.row.getD p.toNat 0)=7 then endsL H n (av (H.row.getD (p.toNat+1) 0)) else true
def Notes (H:Hp) (ps:List Int):Prop:=∀p ∈ ps,uF (H.row.getD p.toNat 0)=7→p.toNat+1<H.row.length∧isA (H.row.getD (p.toNat+1) 0)=true∧av (H.row.getD (p.toNat+1) 0) ∈ ps
set_option maxHeartbeats 4000000 in
theorem l9Ends_any {w:World} {vr vo vm vs:Value} {H:Hp} (h:HpAt w vr vo vm vs H) (hrl:H.row.length≤1048576) {ps:List Int} (hP:Plc H ps) (hN:Notes H ps) (p:Int) (hp:p ∈ ps) (n:Nat) (hn:n≤1048576) :
    Calls Tryz.prog 126 #[hpv H vr vo vm vs,.int .i64 p,.int .i64 n] w fun e w'=>e = .returned (.bool (endsL H (n+1) p))∧Below w.heap.size w w':=by
 obtain⟨a1,c1,a2,c2,a3,c3,a4,c4,e1,e2,e3,e4⟩:=hpAt_slices h
 subst e1 e2 e3 e4
 have B0:Below w.heap.size w (w.alloc (hpb H (.slice a1 H.row.length c1) (.slice a2 H.roots.length c2) (.slice a3 H.mourned.length c3) (.slice a4 H.seen.length c4))):=(Below.refl _ _).alloc (Nat.le_refl _) _
 have HB0:Hid _:=B0
 have HT0:Hid _:=nine_new w H (.slice a1 H.row.length c1) (.slice a2 H.roots.length c2) (.slice a3 H.mourned.length c3) (.slice a4 H.seen.length c4)
 have HH:Hid _:=h
 obtain⟨R,hR⟩:∃R,endsL H (n+1) p=R:=⟨_,rfl⟩
 rw[hR]
 have HR:Hid _:=hR
 have HP:Hid _:=hP
 have HN:Hid _:=hN
 clear h B0 hR hP hN
 go_enter Tryz.func126,Tryz.ntmps126
 go_wp2_with fail
 go_loopw [1,2] (fun u i wz=>∃(q:Int) (k:Nat),u = .int .i64 q∧i = .int .i64 ((k:Int)-1)∧k≤n+1∧q ∈ ps∧endsL H k q=R∧Nine wz w.heap.size 58 (.int .i64 H.half) (.int .i64 H.old) (.slice a1 H.row.length c1) (.int .i64 H.side) (.int .i64 H.top) (.slice a2 H.roots.length c2) (.slice a3 H.mourned.length c3) (.slice a4 H.seen.length c4) (.int .i64 H.seed)∧Below w.heap.size w wz) (fun _ i _=>(intOf i+1).toNat)
 case atStart=>exact⟨p,n+1,rfl,by simp,Nat.le_refl _,hp,HR.out,HT0.out,HB0.out⟩
 case round=>
  obtain⟨q,k,rfl,rfl,hk,hq,hE,hT,hB⟩:=hrel
  clear HT0 HB0 HR
  obtain⟨j,hj,hjl⟩:=HP.out q hq
  subst hj
  obtain⟨⟨z0,z1,z2,z3,z4⟩,⟨z5,z6,z7,z8⟩,_⟩:=nine_cells hT
  have sr:=hB.size
  cases k with
  |zero=>
   have hE':R=false:=by rw[←hE];rfl
   have HE:Hid _:=hE'
   have HB:Hid _:=hB
   have hneg:¬((0:Nat):Int)-1 ≥ 0:=by decide
   clear hE hE' hT hB
   go_wp2
   go_ret
   exact⟨by rw[HE.out];rfl,HB.out⟩
  |succ k=>
   have hI:=(hpAt_below HH.out hB).1
   have L4:=l4Head_any hI j hjl
   unfold hw at L4
   have hge:((k+1:Nat):Int)-1 ≥ 0:=by omega
   have hee:endsL H (k+1) (j:Int)=if uF (H.row.getD j 0)=7 then endsL H k (av (H.row.getD (j+1) 0)) else true:=by
    simp only[endsL,Int.toNat_natCast]
   rw[hee]at hE
   have hnn:=HN.out (j:Int) hq
   rw[Int.toNat_natCast]at hnn
   generalize uF (H.row.getD j 0)=f at *
   generalize uS (H.row.getD j 0)=s at *
   generalize uC (H.row.getD j 0)=c at *
   generalize uH (H.row.getD j 0)=g at *
   generalize uP (H.row.getD j 0)=p0 at *
   generalize uM (H.row.getD j 0)=m at *
   have FF:=field_format s f c g p0 m
   have HT:Hid _:=hT
   have HB:Hid _:=hB
   by_cases h7:f=7
   ·obtain⟨hj1,hA,hmem⟩:=hnn h7
    subst h7
    rw[if_pos rfl]at hE
    obtain⟨a',c',e',_,_,_,hcc⟩:=hI
    have e1:a1=a':=by injection e'
    subst e1
    obtain⟨b,off,rfl,hb,hcc⟩:=hcc (by omega)
    have x1:=hcc (j+1) hj1
    have SA:=sAddrOf_any (H.row.getD (j+1) 0)
    rw[hA]at SA
    have HE:Hid _:=hE
    have HM:Hid _:=hmem
    generalize H.row.getD (j+1) 0=y at *
    generalize av y=ay at *
    have hj1':((j:Int)+1).toNat=j+1:=by omega
    have hj2:(0:Int)≤(j:Int)+1:=by omega
    have hj3:(j:Int)+1<(H.row.length:Int):=by omega
    clear hT hB hE hmem hcc e' hee hnn
    go_wp2_with fail
    refine L4.mono ?_
    rintro e w2 ⟨rfl,b2⟩
    have T2:=nine_below HT.out b2
    have x2:=(b2.cell (p:=⟨b,off+(j+1),none⟩) hb).trans x1
    obtain⟨⟨y0,y1,y2,y3,y4⟩,⟨y5,y6,y7,y8⟩,_⟩:=nine_cells T2
    have HT2:Hid _:=T2
    have HB2:Hid _:=HB.out.trans (b2.mono sr)
    clear L4 b2 T2 z0 z1 z2 z3 z4 z5 z6 z7 z8 x1
    go_wp2_with (go_at_call 97;refine (SA _).mono ?_;clear SA;rintro e w3 ⟨rfl,hw3⟩;rw[hw3];clear hw3 w3)
    exact⟨⟨ay,k,rfl,by go_num,by omega,HM.out,HE.out,HT2.out,HB2.out⟩,by simp[intOf]⟩
   ·have h7':(f != 7)=true:=by simp[h7]
    rw[if_neg h7]at hE
    have HE:Hid (R=true):=hE.symm
    clear hT hB hE hee hnn
    go_wp2_with fail
    refine L4.mono ?_
    rintro e w2 ⟨rfl,b2⟩
    have HB2:Hid _:=HB.out.trans (b2.mono sr)
    clear L4 b2
    go_wp2
    go_ret
    exact⟨by rw[HE.out];rfl,HB2.out⟩
end Go.Proofs.YtkiognecebgaiaaGreatDoor.hp
namespace Go.Proofs.YtkiognecebgaiaaGreatDoor.walks
open Go.RowKit rows heads words
set_option maxRecDepth 100000
theorem own_nothing2 {w:World} {base g:Nat} (hg:g=w.heap.size) (hb:base≤g):rows.Own (w.alloc (.cells #[] 2)) base (.slice (some ⟨g,0,none⟩) 0 0) []:=by
 subst hg;exact own_nothing w base hb
theorem all_yes {ys:List Int} (h:∀q,q<ys.length→isW (ys.getD q 0)=true):ys.all isW=true:=by
 rw[List.all_eq_true]
 intro x hx
 obtain⟨q,hq,rfl⟩:=List.mem_iff_getElem.1 hx
 have:=h q hq
 rwa [List.getD_eq_getElem?_getD,List.getElem?_eq_getElem hq]at this
end Go.Proofs.YtkiognecebgaiaaGreatDoor.walks
