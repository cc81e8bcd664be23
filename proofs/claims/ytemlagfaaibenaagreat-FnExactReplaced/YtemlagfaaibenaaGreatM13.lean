/-
  Chapter 9 as the specification has it: a heap whose numbers are not as they must be. Chapter 9 as lists: which heaps are right.
-/
import Derived.Test.YtemlagfaaibenaaGreatHeapS3
import Derived.Test.YtemlagfaaibenaaGreatM6
import Derived.Deep.Cut
import Derived.Deep.CutRange
import Derived.Test.YtemlagfaaibenaaGreatM4
import Derived.Test.YtemlagfaaibenaaGreatM5
namespace Go.Proofs.YtemlagfaaibenaaGreat.hp
open Go.RowKit rows heads words walks region
set_option maxRecDepth 100000
set_option linter.unusedVariables false
def hb0 (H:Hp):Bool:= !inR 8 200 H.half
def hb1 (H:Hp):Bool:=hb0 H || !inR 8 400 H.old
def hb2 (H:Hp):Bool:=hb1 H || (H.half % 2 != 0)
def hb3 (H:Hp):Bool:=hb2 H || (H.old % 2 != 0)
def hb4 (H:Hp):Bool:=hb3 H || ((H.row.length:Int) != 2*H.half+H.old)
def hb5 (H:Hp):Bool:=hb4 H || !inR 0 1 H.side
def hb6 (H:Hp):Bool:=hb5 H || !inR 0 H.half H.top
def hb7 (H:Hp):Bool:=hb6 H || ((H.roots.length:Int) != 6)
def hb8 (H:Hp):Bool:=hb7 H || decide (40<(H.mourned.length:Int))
def hbad (H:Hp):Bool:=hb8 H || !inR 0 65535 H.seed
set_option maxHeartbeats 16000000 in
theorem places_head {w:World} {vr vo vm vs:Value} {H:Hp} (h:HpAt w vr vo vm vs H) (hd:hbad H=true) :
    Calls Tryz.prog 85 #[hpv H vr vo vm vs] w fun e w'=>∃v',e = .returned (.tuple #[v',.bool false])∧rows.Own w' w.heap.size v' []∧Below w.heap.size w w':=by
 obtain⟨a1,c1,a2,c2,a3,c3,a4,c4,e1,e2,e3,e4⟩:=hpAt_slices h
 subst e1 e2 e3 e4
 have B0:Below w.heap.size w ((w.alloc (hpb H (.slice a1 H.row.length c1) (.slice a2 H.roots.length c2) (.slice a3 H.mourned.length c3) (.slice a4 H.seen.length c4))).alloc (.cells #[] 2)):=((Below.refl _ _).alloc (Nat.le_refl _) _).alloc (by simp) _
 have HB0:Hid _:=B0
 have HO0:Hid (rows.Own ((w.alloc (hpb H (.slice a1 H.row.length c1) (.slice a2 H.roots.length c2) (.slice a3 H.mourned.length c3) (.slice a4 H.seen.length c4))).alloc (.cells #[] 2)) w.heap.size (.slice (some ⟨w.heap.size+1,0,none⟩) 0 0) []):=own_nothing2 (by simp) (by omega)
 have T1:Nine ((w.alloc (hpb H (.slice a1 H.row.length c1) (.slice a2 H.roots.length c2) (.slice a3 H.mourned.length c3) (.slice a4 H.seen.length c4))).alloc (.cells #[] 2)) w.heap.size 27 (.int .i64 H.half) (.int .i64 H.old) (.slice a1 H.row.length c1) (.int .i64 H.side) (.int .i64 H.top) (.slice a2 H.roots.length c2) (.slice a3 H.mourned.length c3) (.slice a4 H.seen.length c4) (.int .i64 H.seed):=nine_below (nine_new w H _ _ _ _) ((Below.refl _ _).alloc (Nat.le_refl _) _)
 have HZ:Hid _:=nine_cells T1
 have HD:Hid _:=hd
 clear B0 T1 h hd
 go_enter Tryz.func85,Tryz.ntmps85
 go_upto_region 2 with fail
 go_cut [79] from 14 to 78 (fun v wz=>v = .bool (hbad H)∧wz=((w.alloc (hpb H (.slice a1 H.row.length c1) (.slice a2 H.roots.length c2) (.slice a3 H.mourned.length c3) (.slice a4 H.seen.length c4))).alloc (.cells #[] 2)))
 case first=>
  rename_i J K' HJ HK
  obtain⟨⟨z0,z1,z2,z3,z4⟩,⟨z5,z6,z7,z8⟩,_⟩:=HZ.out
  refine regHead (p0:=hb0 H) (p1:=hb1 H) (p2:=hb2 H) (p3:=hb3 H) (p4:=hb4 H) (p5:=hb5 H) (p6:=hb6 H) (p7:=hb7 H) (p8:=hb8 H) (p9:=hbad H) rfl ⟨_,rfl,rfl,rfl,rfl⟩ ⟨_,rfl,rfl,rfl,rfl⟩ ⟨_,rfl,rfl,rfl,rfl⟩ ⟨_,rfl,rfl,rfl,rfl⟩ ⟨_,rfl,rfl,rfl,rfl⟩ ⟨_,rfl,rfl,rfl,rfl⟩ ⟨_,rfl,rfl,rfl,rfl⟩ ⟨_,rfl,rfl,rfl,rfl⟩ ⟨_,rfl,rfl,rfl,rfl⟩ ⟨_,rfl,rfl,rfl,rfl⟩ ⟨_,rfl,rfl,rfl,rfl⟩ ⟨_,rfl,rfl,rfl,rfl⟩ ⟨_,rfl,rfl,rfl,rfl⟩ ⟨_,rfl,rfl,rfl,rfl⟩ ⟨_,rfl,rfl,rfl,rfl⟩ ⟨_,rfl,rfl,rfl,rfl⟩ ⟨_,rfl,rfl,rfl,rfl⟩ ⟨_,rfl,rfl,rfl,rfl⟩ ⟨_,rfl,rfl,rfl,rfl⟩ ⟨_,rfl,rfl,rfl,rfl⟩ ⟨_,rfl,rfl,rfl,rfl⟩ ⟨_,rfl,rfl,rfl,rfl⟩ ⟨_,rfl,rfl,rfl,rfl⟩ ⟨_,rfl,rfl,rfl,rfl⟩ ⟨_,rfl,rfl,rfl,rfl⟩ ⟨_,rfl,rfl,rfl,rfl⟩ ⟨_,rfl,rfl,rfl,rfl⟩ ⟨_,rfl,rfl,rfl,rfl⟩ ⟨_,rfl,rfl,rfl,rfl⟩ ⟨_,rfl,rfl,rfl,rfl⟩ ⟨_,rfl,rfl,rfl,rfl⟩ ⟨_,rfl,rfl,rfl,rfl⟩ ⟨_,rfl,rfl,rfl,rfl⟩ ⟨_,rfl,rfl,rfl,rfl⟩ ⟨_,rfl,rfl,rfl,rfl⟩ ⟨_,rfl,rfl,rfl,rfl⟩ ⟨_,rfl,rfl,rfl,rfl⟩ ⟨_,rfl,rfl,rfl,rfl⟩ ⟨_,rfl,rfl,rfl,rfl⟩ ⟨_,rfl,rfl,rfl,rfl⟩ ⟨_,rfl,rfl,rfl,rfl⟩ ⟨_,rfl,rfl,rfl,rfl⟩ ⟨_,rfl,rfl,rfl,rfl⟩ ⟨_,rfl,rfl,rfl,rfl⟩ ⟨_,rfl,rfl,rfl,rfl⟩ ⟨_,rfl,rfl,rfl,rfl⟩ ⟨_,rfl,rfl,rfl,rfl⟩ ⟨_,rfl,rfl,rfl,rfl⟩ ⟨_,rfl,rfl,rfl,rfl⟩ ⟨_,rfl,rfl,rfl,rfl⟩ ⟨_,rfl,rfl,rfl,rfl⟩ ⟨_,rfl,rfl,rfl,rfl⟩ ⟨_,rfl,rfl,rfl,rfl⟩ ⟨_,rfl,rfl,rfl,rfl⟩ ⟨_,rfl,rfl,rfl,rfl⟩ ⟨_,rfl,rfl,rfl,rfl⟩ ⟨_,rfl,rfl,rfl,rfl⟩ ⟨_,rfl,rfl,rfl,rfl⟩ ⟨_,rfl,rfl,rfl,rfl⟩ ⟨_,rfl,rfl,rfl,rfl⟩ ⟨_,rfl,rfl,rfl,rfl⟩ ⟨_,rfl,rfl,rfl,rfl⟩ ⟨_,rfl,rfl,rfl,rfl⟩ ⟨_,rfl,rfl,rfl,rfl⟩ ⟨_,rfl,rfl,rfl,rfl⟩ ⟨_,rfl,rfl,rfl,rfl⟩ (by simp) rfl z0 z1 z2 z3 z4 z5 z6 z8 rfl rfl rfl rfl rfl rfl rfl rfl rfl rfl ?_
  intro u hu
  exact HK _ _ (Met.intro (HJ _ _ ⟨u 14,u 15,u 16,u 17,u 18,u 19,u 20,u 21,u 22,u 23,u 24,u 25,u 26,u 27,u 28,u 29,u 30,u 31,u 32,u 33,u 34,u 35,u 36,u 37,u 38,u 39,u 40,u 41,u 42,u 43,u 44,u 45,u 46,u 47,u 48,u 49,u 50,u 51,u 52,u 53,u 54,u 55,u 56,u 57,u 58,u 59,u 60,u 61,u 62,u 63,u 64,u 65,u 66,u 67,u 68,u 69,u 70,u 71,u 72,u 73,u 74,u 75,u 76,u 77,u 78,u 79,⟨hu,rfl⟩,rfl⟩))
 obtain⟨rfl,rfl⟩:=hcut
 rw[HD.out]
 go_wp2
 go_ret2
 exact⟨_,rfl,HO0.out,HB0.out⟩
end Go.Proofs.YtemlagfaaibenaaGreat.hp
namespace Go.Proofs.YtemlagfaaibenaaGreat.hp
open Go.RowKit rows heads words walks
set_option maxRecDepth 100000
set_option linter.unusedVariables false
def hf (H:Hp):Nat:=H.half.toNat
def od (H:Hp):Nat:=H.old.toNat
def bs (H:Hp):Nat:=(H.side*H.half).toNat
def tp (H:Hp):Nat:=H.top.toNat
structure Nums (H:Hp):Prop where
 half:H.half=(hf H:Int)
 old:H.old=(od H:Int)
 base:H.side*H.half=(bs H:Int)
 top:H.top=(tp H:Int)
 half1:8≤hf H∧hf H≤200∧hf H % 2=0
 old1:8≤od H∧od H≤400∧od H % 2=0
 len:H.row.length=2*hf H+od H
 side:bs H=0∨bs H=hf H
 top1:tp H≤hf H
 roots:H.roots.length=6
 mourned:H.mourned.length≤40
 seed:0≤H.seed∧H.seed≤65535
theorem nums_of {H:Hp} (h:hbad H=false):Nums H:=by
 simp only[hbad,hb8,hb7,hb6,hb5,hb4,hb3,hb2,hb1,hb0,Bool.or_eq_false_iff,Bool.not_eq_false',inR,Bool.and_eq_true,decide_eq_true_eq,bne_eq_false_iff_eq,decide_eq_false_iff_not]at h
 obtain⟨⟨⟨⟨⟨⟨⟨⟨⟨h0,h1⟩,h2⟩,h3⟩,h4⟩,h5⟩,h6⟩,h7⟩,h8⟩,h9⟩:=h
 have e0:H.side=0∨H.side=1:=by omega
 have eb:H.side*H.half=0∨H.side*H.half=H.half:=by
  rcases e0 with e|e<;>rw[e]<;>simp
 refine⟨?_,?_,?_,?_,?_,?_,?_,?_,?_,?_,?_,h9⟩
 all_goals (try simp only[hf,od,bs,tp])
 all_goals omega
theorem Nums.room {H:Hp} (h:Nums H):bs H+tp H≤2*hf H:=by
 have:=h.side
 have:=h.top1
 omega
def zeroAt (H:Hp) (i:Nat):Bool:= !(decide (i<bs H) || decide (bs H+tp H≤i)) || (H.row.getD i 0==0)
def zeroB (H:Hp):Bool:=(List.range (2*hf H)).all (zeroAt H)
def roomW (H:Hp):Option (List Int):=walkO H.row (bs H) (bs H+tp H)
def upW (H:Hp):Option (List Int):=walkO H.row (2*hf H) (2*hf H+od H)
def roomOk (H:Hp) (p:Int):Bool:= !(uF (H.row.getD p.toNat 0)==6) && !(uP (H.row.getD p.toNat 0))
def placesB (H:Hp):Option (List Int):=
 if zeroB H=false then none else
  match roomW H,upW H with
  |some r,some u=>if r.all (roomOk H)=true then some (r++u) else none
  |_,_=>none
def placesR (H:Hp):Option (List Int):=if hbad H=true then none else placesB H
theorem placesB_zero {H:Hp} (h:zeroB H=false):placesB H=none:=by unfold placesB;rw[if_pos h]
theorem placesB_room {H:Hp} (h:roomW H=none):placesB H=none:=by
 unfold placesB
 split
 ·rfl
 ·rw[h]
theorem placesB_up {H:Hp} (h:upW H=none):placesB H=none:=by
 unfold placesB
 split
 ·rfl
 ·rw[h]
  cases roomW H<;>rfl
theorem placesB_no {H:Hp} {r:List Int} (h:roomW H=some r) (h1:r.all (roomOk H)=false):placesB H=none:=by
 unfold placesB
 split
 ·rfl
 ·rw[h]
  cases upW H with
  |none=>rfl
  |some u=>simp[h1]
theorem placesB_yes {H:Hp} {r u:List Int} (h0:zeroB H=true) (h:roomW H=some r) (h':upW H=some u) (h1:r.all (roomOk H)=true):placesB H=some (r++u):=by
 unfold placesB
 rw[if_neg (by rw[h0];decide),h,h']
 simp[h1]
theorem zeroB_false {H:Hp} {i:Nat} (hi:i<2*hf H) (h:zeroAt H i=false):zeroB H=false:=by
 unfold zeroB
 rw[List.all_eq_false]
 exact⟨i,List.mem_range.2 hi,by simp[h]⟩
theorem zeroB_true {H:Hp} (h:∀i,i<2*hf H→zeroAt H i=true):zeroB H=true:=by
 unfold zeroB
 rw[List.all_eq_true]
 exact fun i hi=>h i (List.mem_range.1 hi)
theorem all_no {xs:List Int} {f:Int→Bool} {k:Nat} (hk:k<xs.length) (h:f (xs.getD k 0)=false):xs.all f=false:=by
 rw[List.all_eq_false]
 refine⟨xs.getD k 0,?_,by rw[h];decide⟩
 rw[List.getD_eq_getElem?_getD,List.getElem?_eq_getElem hk]
 exact List.getElem_mem hk
theorem all_yes {xs:List Int} {f:Int→Bool} (h:∀j,j<xs.length→f (xs.getD j 0)=true):xs.all f=true:=by
 rw[List.all_eq_true]
 intro x hx
 obtain⟨i,hi,rfl⟩:=List.getElem_of_mem hx
 have:=h i hi
 rwa [List.getD_eq_getElem?_getD,List.getElem?_eq_getElem hi]at this
theorem all_at {xs:List Int} {f:Int→Bool} (h:xs.all f=true) {k:Nat} (hk:k<xs.length):f (xs.getD k 0)=true:=by
 rw[List.all_eq_true]at h
 refine h _ ?_
 rw[List.getD_eq_getElem?_getD,List.getElem?_eq_getElem hk]
 exact List.getElem_mem hk
theorem walkO_mem {xs:List Int} {f t:Nat} (ht:t≤xs.length) {l:List Int} (h:walkO xs f t=some l) {x:Int} (hx:x ∈ l):∃j:Nat,x=j∧f≤j∧j<t∧chunk xs j≠0:=walkL_mem xs t ht _ _ _ h x hx
theorem walkO_len {xs:List Int} {f t:Nat} (ht:t≤1048576) {l:List Int} (h:walkO xs f t=some l):2*l.length≤t-f∧AllI l:=walkL_length xs t ht _ _ _ h
theorem walkO_pos {xs:List Int} {f t:Nat} (hft:f<t) {l:List Int} (h:walkO xs f t=some l):0<l.length:=by
 by_cases hb:chunk xs f=0∨(f:Int)+chunk xs f > t
 ·rw[walkO_bad hft hb]at h;cases h
 ·rw[walkO_step hft hb]at h
  obtain⟨l',_,rfl⟩:=Option.map_eq_some_iff.1 h
  simp
theorem places_facts {H:Hp} {ps:List Int} (h:placesR H=some ps):Nums H∧zeroB H=true∧∃r u,roomW H=some r∧upW H=some u∧r.all (roomOk H)=true∧ps=r++u:=by
 unfold placesR placesB at h
 split at h
 ·cases h
 ·rename_i h1
  split at h
  ·cases h
  ·rename_i h2
   cases hr:roomW H with
   |none=>rw[hr]at h;cases h
   |some r=>
    cases hu:upW H with
    |none=>rw[hr,hu]at h;cases h
    |some u=>
     rw[hr,hu]at h
     simp only at h
     split at h
     ·rename_i h3
      cases h
      exact⟨nums_of (by simpa using h1),by simpa using h2,r,u,rfl,rfl,h3,rfl⟩
     ·cases h
theorem places_plc {H:Hp} {ps:List Int} (h:placesR H=some ps):(∀p ∈ ps,∃j:Nat,p=j∧j<H.row.length∧chunk H.row j≠0)∧ps.length≤500:=by
 obtain⟨N,_,r,u,hr,hu,_,rfl⟩:=places_facts h
 have hl:=N.len
 have h1:=N.half1
 have h2:=N.old1
 have h3:=N.room
 have b1:=(walkO_len (by omega) hr).1
 have b2:=(walkO_len (by omega) hu).1
 refine⟨fun p hp => ?_,by simp;omega⟩
 rcases List.mem_append.1 hp with hp|hp
 ·obtain⟨j,e,_,a,b⟩:=walkO_mem (by omega) hr hp
  exact⟨j,e,by omega,b⟩
 ·obtain⟨j,e,_,a,b⟩:=walkO_mem (by omega) hu hp
  exact⟨j,e,by omega,b⟩
def cnS (x:Int):Int:=if uF x=7 then 1 else if uF x=6 then 0 else uS x
def slotsOf (H:Hp) (p:Int):List Int:=(H.row.drop (p.toNat+1)).take (cnS (H.row.getD p.toNat 0)).toNat
def slotsOk (H:Hp) (ps:List Int):Bool:=ps.all (fun p=>(slotsOf H p).all (wordIn H ps))
def endsOk (H:Hp) (ps:List Int):Bool:=ps.all (endsL H (ps.length+1))
def mournOk (H:Hp) (ps:List Int):Bool:=H.mourned.all (fun x=>isA x&&wordIn H ps x)
def rightB (H:Hp):Bool:=match placesR H with|none=>false|some ps=>slotsOk H ps&&endsOk H ps&&H.roots.all (wordIn H ps)&&mournOk H ps
def seenL (H:Hp):List Int:=((upW H).getD []).filter (fun p=>(slotsOf H p).any (youngB H))
def heapOk (H:Hp):Bool:=rightB H&&decide (H.seen=seenL H)
theorem chunk_slots {xs:List Int} {j:Nat} (h:chunk xs j≠0):0≤cnS (xs.getD j 0)∧(j:Int)+1+cnS (xs.getD j 0)≤xs.length:=by
 have b:=chunk_bounds xs j
 unfold chunk at h b
 split at h
 ·rename_i h0
  rw[if_pos h0]at b
  obtain⟨s1,s2⟩:=uS_bounds (xs.getD j 0)
  have sb:=sz_bounds s1 s2
  unfold cnS
  by_cases h6:uF (xs.getD j 0)=6
  ·rw[if_neg (by omega),if_pos h6]
   rw[if_pos h6]at h b
   rcases b with b|b
   ·exact absurd b h
   ·omega
  ·rw[if_neg h6]at h b
   rcases b with b|b
   ·exact absurd b h
   ·split at b
    ·by_cases h7:uF (xs.getD j 0)=7
     ·rw[if_pos h7];omega
     ·rw[if_neg h7,if_neg h6];omega
    ·omega
 ·exact absurd rfl h
end Go.Proofs.YtemlagfaaibenaaGreat.hp
