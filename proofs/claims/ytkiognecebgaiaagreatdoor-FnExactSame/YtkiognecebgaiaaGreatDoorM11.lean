/-
  Chapter 9 as the specification has it: a heap whose numbers are not as they must be. Chapter 9 as lists: which heaps are right. Chapter 9 as the program has it: two lists of chunks made one (slices.Concat). Chapter 9 as the program has it: two lists of chunks made one.
-/
import Derived.Test.YtkiognecebgaiaaGreatDoorHeapS3
import Derived.Test.YtkiognecebgaiaaGreatDoorM8
import Derived.Deep.Cut
import Derived.Deep.CutRange
import Derived.Test.YtkiognecebgaiaaGreatDoorM7
import Derived.Test.YtkiognecebgaiaaGreatDoorHeapI5
import Derived.Lib.AppendZerosOnto
import Derived.Laws.AppendOwnNone
namespace Go.Proofs.YtkiognecebgaiaaGreatDoor.hp
open Go.RowKit rows heads words walks region
set_option maxRecDepth 100000
set_option linter.unusedVariables false
def hb0 (H:Hp):Bool:= !inR 8 200 H.half
def hb1 (H:Hp):Bool:=hb0 H || !inR 8 400 H.old
def hb2 (H:Hp):Bool:=hb1 H || (H.half % 2 != 0)
def hb3 (H:Hp):Bool:=hb2 H || (H.old % 2 != 0)
def hb4 (H:Hp):Bool:=hb3 H || ((H.row.length:Int) != 2*H.half+H.old)
def hb5 (H:Hp):Bool:=hb4 H || !inR 0 1 H.side
def hb6 (H:Hp):Bool:=hb5 H || !inR 0 H.half H.top
def hb7 (H:Hp):Bool:=hb6 H || ((H.roots.length:Int) != 6)
def hb8 (H:Hp):Bool:=hb7 H || decide (40<(H.mourned.length:Int))
def hbad (H:Hp):Bool:=hb8 H || !inR 0 65535 H.seed
set_option maxHeartbeats 16000000 in
theorem places_head {w:World} {vr vo vm vs:Value} {H:Hp} (h:HpAt w vr vo vm vs H) (hd:hbad H=true) :
    Calls Tryz.prog 123 #[hpv H vr vo vm vs] w fun e w'=>∃v',e = .returned (.tuple #[v',.bool false])∧rows.Own w' w.heap.size v' []∧Below w.heap.size w w':=by
 obtain⟨a1,c1,a2,c2,a3,c3,a4,c4,e1,e2,e3,e4⟩:=hpAt_slices h
 subst e1 e2 e3 e4
 have B0:Below w.heap.size w ((w.alloc (hpb H (.slice a1 H.row.length c1) (.slice a2 H.roots.length c2) (.slice a3 H.mourned.length c3) (.slice a4 H.seen.length c4))).alloc (.cells #[] 2)):=((Below.refl _ _).alloc (Nat.le_refl _) _).alloc (by simp) _
 have HB0:Hid _:=B0
 have HO0:Hid (rows.Own ((w.alloc (hpb H (.slice a1 H.row.length c1) (.slice a2 H.roots.length c2) (.slice a3 H.mourned.length c3) (.slice a4 H.seen.length c4))).alloc (.cells #[] 2)) w.heap.size (.slice (some ⟨w.heap.size+1,0,none⟩) 0 0) []):=own_nothing2 (by simp) (by omega)
 have T1:Nine ((w.alloc (hpb H (.slice a1 H.row.length c1) (.slice a2 H.roots.length c2) (.slice a3 H.mourned.length c3) (.slice a4 H.seen.length c4))).alloc (.cells #[] 2)) w.heap.size 58 (.int .i64 H.half) (.int .i64 H.old) (.slice a1 H.row.length c1) (.int .i64 H.side) (.int .i64 H.top) (.slice a2 H.roots.length c2) (.slice a3 H.mourned.length c3) (.slice a4 H.seen.length c4) (.int .i64 H.seed):=nine_below (nine_new w H _ _ _ _) ((Below.refl _ _).alloc (Nat.le_refl _) _)
 have HZ:Hid _:=nine_cells T1
 have HD:Hid _:=hd
 clear B0 T1 h hd
 go_enter Tryz.func123,Tryz.ntmps123
 go_upto_region 2 with fail
 go_cut [79] from 14 to 78 (fun v wz=>v = .bool (hbad H)∧wz=((w.alloc (hpb H (.slice a1 H.row.length c1) (.slice a2 H.roots.length c2) (.slice a3 H.mourned.length c3) (.slice a4 H.seen.length c4))).alloc (.cells #[] 2)))
 case first=>
  rename_i J K' HJ HK
  obtain⟨⟨z0,z1,z2,z3,z4⟩,⟨z5,z6,z7,z8⟩,_⟩:=HZ.out
  refine regHead (p0:=hb0 H) (p1:=hb1 H) (p2:=hb2 H) (p3:=hb3 H) (p4:=hb4 H) (p5:=hb5 H) (p6:=hb6 H) (p7:=hb7 H) (p8:=hb8 H) (p9:=hbad H) rfl ⟨_,rfl,rfl,rfl,rfl⟩ ⟨_,rfl,rfl,rfl,rfl⟩ ⟨_,rfl,rfl,rfl,rfl⟩ ⟨_,rfl,rfl,rfl,rfl⟩ ⟨_,rfl,rfl,rfl,rfl⟩ ⟨_,rfl,rfl,rfl,rfl⟩ ⟨_,rfl,rfl,rfl,rfl⟩ ⟨_,rfl,rfl,rfl,rfl⟩ ⟨_,rfl,rfl,rfl,rfl⟩ ⟨_,rfl,rfl,rfl,rfl⟩ ⟨_,rfl,rfl,rfl,rfl⟩ ⟨_,rfl,rfl,rfl,rfl⟩ ⟨_,rfl,rfl,rfl,rfl⟩ ⟨_,rfl,rfl,rfl,rfl⟩ ⟨_,rfl,rfl,rfl,rfl⟩ ⟨_,rfl,rfl,rfl,rfl⟩ ⟨_,rfl,rfl,rfl,rfl⟩ ⟨_,rfl,rfl,rfl,rfl⟩ ⟨_,rfl,rfl,rfl,rfl⟩ ⟨_,rfl,rfl,rfl,rfl⟩ ⟨_,rfl,rfl,rfl,rfl⟩ ⟨_,rfl,rfl,rfl,rfl⟩ ⟨_,rfl,rfl,rfl,rfl⟩ ⟨_,rfl,rfl,rfl,rfl⟩ ⟨_,rfl,rfl,rfl,rfl⟩ ⟨_,rfl,rfl,rfl,rfl⟩ ⟨_,rfl,rfl,rfl,rfl⟩ ⟨_,rfl,rfl,rfl,rfl⟩ ⟨_,rfl,rfl,rfl,rfl⟩ ⟨_,rfl,rfl,rfl,rfl⟩ ⟨_,rfl,rfl,rfl,rfl⟩ ⟨_,rfl,rfl,rfl,rfl⟩ ⟨_,rfl,rfl,rfl,rfl⟩ ⟨_,rfl,rfl,rfl,rfl⟩ ⟨_,rfl,rfl,rfl,rfl⟩ ⟨_,rfl,rfl,rfl,rfl⟩ ⟨_,rfl,rfl,rfl,rfl⟩ ⟨_,rfl,rfl,rfl,rfl⟩ ⟨_,rfl,rfl,rfl,rfl⟩ ⟨_,rfl,rfl,rfl,rfl⟩ ⟨_,rfl,rfl,rfl,rfl⟩ ⟨_,rfl,rfl,rfl,rfl⟩ ⟨_,rfl,rfl,rfl,rfl⟩ ⟨_,rfl,rfl,rfl,rfl⟩ ⟨_,rfl,rfl,rfl,rfl⟩ ⟨_,rfl,rfl,rfl,rfl⟩ ⟨_,rfl,rfl,rfl,rfl⟩ ⟨_,rfl,rfl,rfl,rfl⟩ ⟨_,rfl,rfl,rfl,rfl⟩ ⟨_,rfl,rfl,rfl,rfl⟩ ⟨_,rfl,rfl,rfl,rfl⟩ ⟨_,rfl,rfl,rfl,rfl⟩ ⟨_,rfl,rfl,rfl,rfl⟩ ⟨_,rfl,rfl,rfl,rfl⟩ ⟨_,rfl,rfl,rfl,rfl⟩ ⟨_,rfl,rfl,rfl,rfl⟩ ⟨_,rfl,rfl,rfl,rfl⟩ ⟨_,rfl,rfl,rfl,rfl⟩ ⟨_,rfl,rfl,rfl,rfl⟩ ⟨_,rfl,rfl,rfl,rfl⟩ ⟨_,rfl,rfl,rfl,rfl⟩ ⟨_,rfl,rfl,rfl,rfl⟩ ⟨_,rfl,rfl,rfl,rfl⟩ ⟨_,rfl,rfl,rfl,rfl⟩ ⟨_,rfl,rfl,rfl,rfl⟩ ⟨_,rfl,rfl,rfl,rfl⟩ (by simp) rfl z0 z1 z2 z3 z4 z5 z6 z8 rfl rfl rfl rfl rfl rfl rfl rfl rfl rfl ?_
  intro u hu
  exact HK _ _ (Met.intro (HJ _ _ ⟨u 14,u 15,u 16,u 17,u 18,u 19,u 20,u 21,u 22,u 23,u 24,u 25,u 26,u 27,u 28,u 29,u 30,u 31,u 32,u 33,u 34,u 35,u 36,u 37,u 38,u 39,u 40,u 41,u 42,u 43,u 44,u 45,u 46,u 47,u 48,u 49,u 50,u 51,u 52,u 53,u 54,u 55,u 56,u 57,u 58,u 59,u 60,u 61,u 62,u 63,u 64,u 65,u 66,u 67,u 68,u 69,u 70,u 71,u 72,u 73,u 74,u 75,u 76,u 77,u 78,u 79,⟨hu,rfl⟩,rfl⟩))
 obtain⟨rfl,rfl⟩:=hcut
 rw[HD.out]
 go_wp2
 go_ret2
 exact⟨_,rfl,HO0.out,HB0.out⟩
end Go.Proofs.YtkiognecebgaiaaGreatDoor.hp
namespace Go.Proofs.YtkiognecebgaiaaGreatDoor.hp
open Go.RowKit rows heads words walks
set_option maxRecDepth 100000
set_option linter.unusedVariables false
def hf (H:Hp):Nat:=H.half.toNat
def od (H:Hp):Nat:=H.old.toNat
def bs (H:Hp):Nat:=(H.side*H.half).toNat
def tp (H:Hp):Nat:=H.top.toNat
structure Nums (H:Hp):Prop where
 half:H.half=(hf H:Int)
 old:H.old=(od H:Int)
 base:H.side*H.half=(bs H:Int)
 top:H.top=(tp H:Int)
 half1:8≤hf H∧hf H≤200∧hf H % 2=0
 old1:8≤od H∧od H≤400∧od H % 2=0
 len:H.row.length=2*hf H+od H
 side:bs H=0∨bs H=hf H
 top1:tp H≤hf H
 roots:H.roots.length=6
 mourned:H.mourned.length≤40
 seed:0≤H.seed∧H.seed≤65535
theorem nums_of {H:Hp} (h:hbad H=false):Nums H:=by
 simp only[hbad,hb8,hb7,hb6,hb5,hb4,hb3,hb2,hb1,hb0,Bool.or_eq_false_iff,Bool.not_eq_false',inR,Bool.and_eq_true,decide_eq_true_eq,bne_eq_false_iff_eq,decide_eq_false_iff_not]at h
 obtain⟨⟨⟨⟨⟨⟨⟨⟨⟨h0,h1⟩,h2⟩,h3⟩,h4⟩,h5⟩,h6⟩,h7⟩,h8⟩,h9⟩:=h
 have e0:H.side=0∨H.side=1:=by omega
 have eb:H.side*H.half=0∨H.side*H.half=H.half:=by
  rcases e0 with e|e<;>rw[e]<;>simp
 refine⟨?_,?_,?_,?_,?_,?_,?_,?_,?_,?_,?_,h9⟩
 all_goals (try simp only[hf,od,bs,tp])
 all_goals omega
theorem Nums.room {H:Hp} (h:Nums H):bs H+tp H≤2*hf H:=by
 have:=h.side
 have:=h.top1
 omega
def zeroAt (H:Hp) (i:Nat):Bool:= !(decide (i<bs H) || decide (bs H+tp H≤i)) || (H.row.getD i 0==0)
def zeroB (H:Hp):Bool:=(List.range (2*hf H)).all (zeroAt H)
def roomW (H:Hp):Option (List Int):=walkO H.row (bs H) (bs H+tp H)
def upW (H:Hp):Option (List Int):=walkO H.row (2*hf H) (2*hf H+od H)
def roomOk (H:Hp) (p:Int):Bool:= !(uF (H.row.getD p.toNat 0)==6) && !(uP (H.row.getD p.toNat 0))
def placesB (H:Hp):Option (List Int):=
 if zeroB H=false then none else
  match roomW H,upW H with
  |some r,some u=>if r.all (roomOk H)=true then some (r++u) else none
  |_,_=>none
def placesR (H:Hp):Option (List Int):=if hbad H=true then none else placesB H
theorem placesB_zero {H:Hp} (h:zeroB H=false):placesB H=none:=by unfold placesB;rw[if_pos h]
theorem placesB_room {H:Hp} (h:roomW H=none):placesB H=none:=by
 unfold placesB
 split
 ·rfl
 ·rw[h]
theorem placesB_up {H:Hp} (h:upW H=none):placesB H=none:=by
 unfold placesB
 split
 ·rfl
 ·rw[h]
  cases roomW H<;>rfl
theorem placesB_no {H:Hp} {r:List Int} (h:roomW H=some r) (h1:r.all (roomOk H)=false):placesB H=none:=by
 unfold placesB
 split
 ·rfl
 ·rw[h]
  cases upW H with
  |none=>rfl
  |some u=>simp[h1]
theorem placesB_yes {H:Hp} {r u:List Int} (h0:zeroB H=true) (h:roomW H=some r) (h':upW H=some u) (h1:r.all (roomOk H)=true):placesB H=some (r++u):=by
 unfold placesB
 rw[if_neg (by rw[h0];decide),h,h']
 simp[h1]
theorem zeroB_false {H:Hp} {i:Nat} (hi:i<2*hf H) (h:zeroAt H i=false):zeroB H=false:=by
 unfold zeroB
 rw[List.all_eq_false]
 exact⟨i,List.mem_range.2 hi,by simp[h]⟩
theorem zeroB_true {H:Hp} (h:∀i,i<2*hf H→zeroAt H i=true):zeroB H=true:=by
 unfold zeroB
 rw[List.all_eq_true]
 exact fun i hi=>h i (List.mem_range.1 hi)
theorem all_no {xs:List Int} {f:Int→Bool} {k:Nat} (hk:k<xs.length) (h:f (xs.getD k 0)=false):xs.all f=false:=by
 rw[List.all_eq_false]
 refine⟨xs.getD k 0,?_,by rw[h];decide⟩
 rw[List.getD_eq_getElem?_getD,List.getElem?_eq_getElem hk]
 exact List.getElem_mem hk
theorem all_yes {xs:List Int} {f:Int→Bool} (h:∀j,j<xs.length→f (xs.getD j 0)=true):xs.all f=true:=by
 rw[List.all_eq_true]
 intro x hx
 obtain⟨i,hi,rfl⟩:=List.getElem_of_mem hx
 have:=h i hi
 rwa [List.getD_eq_getElem?_getD,List.getElem?_eq_getElem hi]at this
theorem all_at {xs:List Int} {f:Int→Bool} (h:xs.all f=true) {k:Nat} (hk:k<xs.length):f (xs.getD k 0)=true:=by
 rw[List.all_eq_true]at h
 refine h _ ?_
 rw[List.getD_eq_getElem?_getD,List.getElem?_eq_getElem hk]
 exact List.getElem_mem hk
theorem walkO_mem {xs:List Int} {f t:Nat} (ht:t≤xs.length) {l:List Int} (h:walkO xs f t=some l) {x:Int} (hx:x ∈ l):∃j:Nat,x=j∧f≤j∧j<t∧chunk xs j≠0:=walkL_mem xs t ht _ _ _ h x hx
theorem walkO_len {xs:List Int} {f t:Nat} (ht:t≤1048576) {l:List Int} (h:walkO xs f t=some l):2*l.length≤t-f∧AllI l:=walkL_length xs t ht _ _ _ h
theorem walkO_pos {xs:List Int} {f t:Nat} (hft:f<t) {l:List Int} (h:walkO xs f t=some l):0<l.length:=by
 by_cases hb:chunk xs f=0∨(f:Int)+chunk xs f > t
 ·rw[walkO_bad hft hb]at h;cases h
 ·rw[walkO_step hft hb]at h
  obtain⟨l',_,rfl⟩:=Option.map_eq_some_iff.1 h
  simp
theorem places_facts {H:Hp} {ps:List Int} (h:placesR H=some ps):Nums H∧zeroB H=true∧∃r u,roomW H=some r∧upW H=some u∧r.all (roomOk H)=true∧ps=r++u:=by
 unfold placesR placesB at h
 split at h
 ·cases h
 ·rename_i h1
  split at h
  ·cases h
  ·rename_i h2
   cases hr:roomW H with
   |none=>rw[hr]at h;cases h
   |some r=>
    cases hu:upW H with
    |none=>rw[hr,hu]at h;cases h
    |some u=>
     rw[hr,hu]at h
     simp only at h
     split at h
     ·rename_i h3
      cases h
      exact⟨nums_of (by simpa using h1),by simpa using h2,r,u,rfl,rfl,h3,rfl⟩
     ·cases h
theorem places_plc {H:Hp} {ps:List Int} (h:placesR H=some ps):(∀p ∈ ps,∃j:Nat,p=j∧j<H.row.length∧chunk H.row j≠0)∧ps.length≤500:=by
 obtain⟨N,_,r,u,hr,hu,_,rfl⟩:=places_facts h
 have hl:=N.len
 have h1:=N.half1
 have h2:=N.old1
 have h3:=N.room
 have b1:=(walkO_len (by omega) hr).1
 have b2:=(walkO_len (by omega) hu).1
 refine⟨fun p hp => ?_,by simp;omega⟩
 rcases List.mem_append.1 hp with hp|hp
 ·obtain⟨j,e,_,a,b⟩:=walkO_mem (by omega) hr hp
  exact⟨j,e,by omega,b⟩
 ·obtain⟨j,e,_,a,b⟩:=walkO_mem (by omega) hu hp
  exact⟨j,e,by omega,b⟩
def cnS (x:Int):Int:=if uF x=7 then 1 else if uF x=6 then 0 else uS x
def slotsOf (H:Hp) (p:Int):List Int:=(H.row.drop (p.toNat+1)).take (cnS (H.row.getD p.toNat 0)).toNat
def slotsOk (H:Hp) (ps:List Int):Bool:=ps.all (fun p=>(slotsOf H p).all (wordIn H ps))
def endsOk (H:Hp) (ps:List Int):Bool:=ps.all (endsL H (ps.length+1))
def mournOk (H:Hp) (ps:List Int):Bool:=H.mourned.all (fun x=>isA x&&wordIn H ps x)
def rightB (H:Hp):Bool:=match placesR H with|none=>false|some ps=>slotsOk H ps&&endsOk H ps&&H.roots.all (wordIn H ps)&&mournOk H ps
def seenL (H:Hp):List Int:=((upW H).getD []).filter (fun p=>(slotsOf H p).any (youngB H))
def heapOk (H:Hp):Bool:=rightB H&&decide (H.seen=seenL H)
theorem chunk_slots {xs:List Int} {j:Nat} (h:chunk xs j≠0):0≤cnS (xs.getD j 0)∧(j:Int)+1+cnS (xs.getD j 0)≤xs.length:=by
 have b:=chunk_bounds xs j
 unfold chunk at h b
 split at h
 ·rename_i h0
  rw[if_pos h0]at b
  obtain⟨s1,s2⟩:=uS_bounds (xs.getD j 0)
  have sb:=sz_bounds s1 s2
  unfold cnS
  by_cases h6:uF (xs.getD j 0)=6
  ·rw[if_neg (by omega),if_pos h6]
   rw[if_pos h6]at h b
   rcases b with b|b
   ·exact absurd b h
   ·omega
  ·rw[if_neg h6]at h b
   rcases b with b|b
   ·exact absurd b h
   ·split at b
    ·by_cases h7:uF (xs.getD j 0)=7
     ·rw[if_pos h7];omega
     ·rw[if_neg h7,if_neg h6];omega
    ·omega
 ·exact absurd rfl h
end Go.Proofs.YtkiognecebgaiaaGreatDoor.hp
namespace Go.Proofs.YtkiognecebgaiaaGreatDoor.hp
open Go.RowKit rows heads words walks
set_option maxRecDepth 100000
set_option linter.unusedVariables false
set_option linter.unusedSimpArgs false
theorem wpList_growP {w:World} {ops:Array Oper} {rest:List Oper} {o:Oper} {act:Act} {Q:Exit→Act→World→Prop} (hgd:o.guard=none) (s x:Operand) (ho:o.op = .call { callee:=.builtin .append,args:=#[s,x],argTypes:=#[151,3] })
    (hs:act.eval s = .slice none 0 0) (k:Nat) (h0:0<k) (hk:k≤100000) (hx:act.eval x = .int .i64 (k:Int))
    (hK:∀cap w',k≤cap→cap≤maxLen→OwnP w' w.heap.size (.slice (some ⟨w.heap.size,0,none⟩) 0 cap) []→Below w.heap.size w w'→wpList Tryz.prog ops Q rest (act.put o.dst (.slice (some ⟨w.heap.size,0,none⟩) k cap)) w') :
    wpList Tryz.prog ops Q (o :: rest) act w:=by
 obtain⟨i0,hi,hz0,hz1,hz2⟩:=info_parts infoP
 refine wpList_plain hgd fun K hK' => ?_
 have hrun:=Go.Lib.run_append_grow_zeros (P:=Tryz.prog) w 151 3 o.type 197 i0 (pdv pdD) .i64 .i64 Tryz.underlying151 Tryz.underlying3 hi hz0 none 0 0 [] (by simp[Builtin.firstCells]) k h0 (by rw[hz1];decide) (by omega) (by omega) (by rw[hz2];omega) (by rw[hz2];unfold Builtin.nextslicecap;simp;split<;>omega)
 unfold Oper.wp
 simp[execOp,ho,resolve,invoke,builtin,hs,hx,hrun,Result.andThen]
 have hge:=grownCap_ge w (0+k) 0 197
 have hle:=grownCap_le_maxLen w (0+k) 0 197 (by unfold maxLen;omega)
 rw[Nat.zero_add]at hge hle
 refine hK' _ _ (hK _ _ hge hle ?_ ((Below.refl _ w).drew.alloc (Nat.le_refl _) _))
 refine⟨rfl,.inr ⟨w.heap.size,_,_,rfl,Nat.le_refl _,heap_alloc_new w.drew _,Nat.zero_le _,hle,?_,by simp[cellsP]⟩⟩
 simp[size_zeroCells,Value.cells]
 omega
set_option maxHeartbeats 4000000 in
theorem growP_any (k:Nat) (hk:k≤100000) (w:World) :
    Calls Tryz.prog 194 #[.slice none 0 0,.int .i64 (k:Int)] w fun e w'=>∃v',e = .returned v'∧OwnP w' w.heap.size v' []∧Below w.heap.size w w':=by
 by_cases h0:k=0
 ·subst h0
  go_enter Tryz.func194,Tryz.ntmps194
  go_wp2
  go_ret
  exact⟨_,rfl,World.ownsRow_nil _ _ _ _,Below.refl _ _⟩
 ·have hp:0<k:=by omega
  have hp1:(k:Int) > 0:=by omega
  have hp2:¬(k:Int)<0:=by omega
  go_enter Tryz.func194,Tryz.ntmps194
  go_wp2_with (refine wpList_growP rfl (.tmp 20) (.tmp 21) rfl (by first|rfl|(simp[go_sem];done)) k hp hk (by first|rfl|(simp[go_sem];done)) ?_;intro cap w2 hc1 hc2 hO hB;have HO:Hid _:=hO;have HB:Hid _:=hB;have hc3:cap≤9223372036854775807:=hc2;clear hO hB)
  go_ret
  exact⟨_,rfl,HO.out,HB.out⟩
theorem wpList_app_pds {w:World} {ops:Array Oper} {rest:List Oper} {o:Oper} {act:Act} {Q:Exit→Act→World→Prop} (hgd:o.guard=none) (s x:Operand) (ho:o.op = .call { callee:=.builtin .append,args:=#[s,x],argTypes:=#[151,151] })
    (base:Nat) (v:Value) (ds:List Pd) (hs:act.eval s=v) (hown:OwnP w base v ds) (u:Value) (es:List Pd) (hx:act.eval x=u) (hU:PdsAt w u es) (hsl:SlicesP es) (hb:ds.length+es.length≤100000) (hbase:base≤w.heap.size)
    (hK:∀v' w',OwnP w' base v' (ds++es)→Ch (blk v) w w'→wpList Tryz.prog ops Q rest (act.put o.dst v') w') :
    wpList Tryz.prog ops Q (o :: rest) act w:=by
 obtain⟨i0,hi,hz0,hz1,hz2⟩:=info_parts infoP
 obtain⟨ad,cap,e,hlc,hcm,hnil,_⟩:=id hU
 subst e
 cases ad with
 |some ad=>
  refine wpList_append_own_at _ hgd s x _ ho base 197 i0 (pdv pdD) 8 72 Tryz.underlying151 hi hz0 hz1 hz2 rfl (by decide) v ds.length (cellsP ds) hs hown ad es.length cap (cellsP es) hx (cellsP_length es) (pds_news hU) (cellsP_one hsl) (by unfold maxLen;omega) (by omega) hbase ?_
  intro v' w' h1 h2 _ _
  refine hK v' w' ?_ (ch_grown h2)
  unfold OwnP
  rw[cellsP_append,List.length_append]
  exact h1
 |none=>
  have hc:=hnil rfl
  have hy:es=[]:=List.eq_nil_of_length_eq_zero (by omega)
  subst hy hc
  refine wpList_plain hgd fun K hK' => ?_
  have hrun:=run_append_owned_none (P:=Tryz.prog) (w:=w) base 151 o.type 197 i0 8 Tryz.underlying151 hi v ds.length (cellsP ds) hown
  have hx':act.eval x = .slice none 0 0:=hx
  unfold Oper.wp
  simp[execOp,ho,resolve,invoke,builtin,hs,hx',hrun,Result.andThen]
  exact hK' _ _ (hK v w (by rw[List.append_nil];exact hown) (Ch.refl _ _))
set_option maxHeartbeats 8000000 in
theorem concat_any {w:World} {b:Nat} {v1 v2:Value} {ds es:List Pd} (hb:w.heap[b]? = some (.cells #[v1,v2] 151 (0,0))) (h1:PdsAt w v1 ds) (h2:PdsAt w v2 es) (s1:SlicesP ds) (s2:SlicesP es) (hl:ds.length≤1000∧es.length≤1000) :
    Calls Tryz.prog 178 #[.slice (some ⟨b,0,none⟩) 2 2] w fun e w'=>∃v',e = .returned v'∧OwnP w' w.heap.size v' (ds++es)∧Below w.heap.size w w':=by
 obtain⟨hl1,hl2⟩:=hl
 have HP1:Hid (PdsAt w v1 ds):=h1
 have HP2:Hid (PdsAt w v2 es):=h2
 have HS1:Hid _:=s1
 have HS2:Hid _:=s2
 obtain⟨a1,c1,rfl⟩:=pds_slice h1
 obtain⟨a2,c2,rfl⟩:=pds_slice h2
 have hbl:=lt_of_block hb
 have k0:w.cell? ⟨b,0,none⟩=some (.slice a1 ds.length c1):=by simp[World.cell?, hb]
 have k1:w.cell? ⟨b,1,none⟩=some (.slice a2 es.length c2):=by simp[World.cell?, hb]
 clear h1 h2 s1 s2 hb
 go_enter Tryz.func178,Tryz.ntmps178
 go_wp2_with fail
 go_loopw [3,5,11] (fun z _ q wr=>((z = .int .i64 0∧q = .int .i64 0)∨(z = .int .i64 (ds.length:Int)∧q = .int .i64 1)∨(z = .int .i64 ((ds.length:Int)+es.length)∧q = .int .i64 2))∧wr=w) (fun _ _ q _=>2-(intOf q).toNat)
 case atStart=>exact⟨.inl ⟨rfl,rfl⟩,rfl⟩
 case round=>
  obtain⟨hc,hw⟩:=hrel
  have hw':=hw.symm
  clear hw
  subst hw'
  rcases hc with ⟨rfl,rfl⟩|⟨rfl,rfl⟩|⟨rfl,rfl⟩
  ·have p1:¬(ds.length:Int)<0:=by omega
   go_wp2
   exact⟨⟨.inr (.inl ⟨rfl,rfl⟩),by trivial⟩,by simp[intOf]⟩
  ·have p1:¬(ds.length:Int)+(es.length:Int)<0:=by omega
   go_wp2
   exact⟨⟨.inr (.inr ⟨rfl,rfl⟩),by trivial⟩,by simp[intOf]⟩
  ·obtain⟨T,hT⟩:∃T:Nat,ds.length+es.length=T:=⟨_,rfl⟩
   have eT:(ds.length:Int)+(es.length:Int)=(T:Int):=by omega
   have GR:=growP_any T (by omega) w
   have HT:Hid _:=hT
   clear hT
   go_wp2_with fail
   refine GR.mono ?_
   clear GR
   rintro e w2 ⟨v2,rfl,O2,b2⟩
   have HO2:Hid _:=O2
   have HB2:Hid _:=b2
   obtain⟨na,nc,rfl⟩:=pds_slice (ownP_at O2)
   clear O2 b2
   go_wp2_with fail
   go_loopw [6,8,27] (fun o _ q wz=>∃v,v=o∧((q = .int .i64 0∧OwnP wz w.heap.size v [])∨(q = .int .i64 1∧OwnP wz w.heap.size v ds)∨(q = .int .i64 2∧OwnP wz w.heap.size v (ds++es)))∧Below w.heap.size w wz) (fun _ _ q _=>2-(intOf q).toNat)
   case atStart=>exact⟨_,rfl,.inl ⟨rfl,HO2.out⟩,HB2.out⟩
   case round=>
    obtain⟨v,rfl,hc,hB⟩:=hrel
    clear HO2 HB2
    have z0:=(hB.cell (p:=⟨b,0,none⟩) hbl).trans k0
    have z1:=(hB.cell (p:=⟨b,1,none⟩) hbl).trans k1
    have HB:Hid _:=hB
    have sB:=hB.size
    rcases hc with ⟨rfl,hO⟩|⟨rfl,hO⟩|⟨rfl,hO⟩
    ·have HOV:Hid _:=hO
     obtain⟨va,vc,rfl⟩:=pds_slice (ownP_at hO)
     have HU:Hid _:=pdsAt_below HP1.out hB
     clear hO hB k0 k1
     go_wp2_with (refine wpList_app_pds rfl (.tmp 31) (.tmp 32) rfl w.heap.size (.slice va ([]:List Pd).length vc) [] (by first|rfl|(simp[go_sem];done)) HOV.out (.slice a1 ds.length c1) ds (by first|rfl|(simp[go_sem];done)) HU.out HS1.out (by simp;omega) sB ?_;intro v' w5 h5 c5;have HO5:Hid (OwnP w5 w.heap.size v' ds):=h5;have HB5:Hid (Below w.heap.size w w5):=HB.out.trans (below_ch c5 sB (fun k hk=>(blk_lt HOV.out k hk).1));obtain⟨na',nc',rfl⟩:=pds_slice (ownP_at h5);clear h5 c5)
     exact⟨⟨_,rfl,.inr (.inl ⟨rfl,HO5.out⟩),HB5.out⟩,by simp[intOf]⟩
    ·have HOV:Hid _:=hO
     obtain⟨va,vc,rfl⟩:=pds_slice (ownP_at hO)
     have HU:Hid _:=pdsAt_below HP2.out hB
     clear hO hB k0 k1
     go_wp2_with (refine wpList_app_pds rfl (.tmp 31) (.tmp 32) rfl w.heap.size (.slice va ds.length vc) ds (by first|rfl|(simp[go_sem];done)) HOV.out (.slice a2 es.length c2) es (by first|rfl|(simp[go_sem];done)) HU.out HS2.out (by omega) sB ?_;intro v' w5 h5 c5;have HO5:Hid (OwnP w5 w.heap.size v' (ds++es)):=h5;have HB5:Hid (Below w.heap.size w w5):=HB.out.trans (below_ch c5 sB (fun k hk=>(blk_lt HOV.out k hk).1));obtain⟨na',nc',rfl⟩:=pds_slice (ownP_at h5);clear h5 c5)
     exact⟨⟨_,rfl,.inr (.inr ⟨rfl,by have:=HO5.out;rw[List.length_append]at this;exact this⟩),HB5.out⟩,by simp[intOf]⟩
    ·have HOV:Hid _:=hO
     obtain⟨va,vc,rfl⟩:=pds_slice (ownP_at hO)
     clear hO hB k0 k1
     go_wp2
     go_ret
     exact⟨_,rfl,HOV.out,HB.out⟩
end Go.Proofs.YtkiognecebgaiaaGreatDoor.hp
