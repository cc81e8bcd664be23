/-
  Chapter 15 as the specification has it: those upstairs are pushed together.
  Made from the template CmpS2 (mkcmps2.py).
-/
import Derived.Test.YtemlagfaaibenaaGreatM16
import Derived.Test.YtemlagfaaibenaaGreatM7
import Derived.Test.YtemlagfaaibenaaGreatM2
import Derived.Deep.CutRange
namespace Go.Proofs.YtemlagfaaibenaaGreat.hp
open Go.RowKit rows heads words walks region
set_option maxRecDepth 100000
set_option linter.unusedVariables false
set_option linter.unusedSimpArgs false
theorem headAt_ch {w w':World} {b g:Nat} {s f c h:Int} {p m:Bool} (hh:HeadAt w b s f c h p m) (hc:Ch [g] w w') (hn:b≠g):HeadAt w' b s f c h p m:=(hc.block b (lt_of_block hh) (by simp;exact hn)).trans hh
theorem field_fmt (s f c h:Int) (p m:Bool) (w:World):(Instr.field 39 (hv s f c h p m) 1).run Tryz.prog w = .ok (.int .i64 f) w:=rfl
theorem list_cell {W:World} {base ub uo n vc:Nat} {xs:List Int} (h:rows.Own W base (.slice (some ⟨ub,uo,none⟩) n vc) xs) {y:Nat} (hy:y<xs.length):W.cell? ⟨ub,uo+y,none⟩=some (.int .i64 (xs.getD y 0)):=by
 obtain⟨b,off,e,_,c⟩:=ints_cell (own_ints h) hy
 injection e with e
 injection e with e1 e2 _
 rw[e1,e2]
 exact c
theorem own_row4' {w:World} {base n:Nat} {v:Value} (h:w.ownsRow base 2 1 v n (madeCells (Value.int .i64 0).cells (n*1)).toList):rows.Own w base v (List.replicate n 0):=by
 unfold rows.Own
 simpa [cellsOf,toList_madeCells_one,Value.cells] using h
theorem rep_set {n y:Nat} (h:y<n):(List.replicate y (-1:Int)++List.replicate (n-y) 0).set y (-1)=List.replicate (y+1) (-1)++List.replicate (n-(y+1)) 0:=by
 refine list_ext (by simp;omega) (fun i hi => ?_)
 simp only[List.getD_eq_getElem?_getD,List.getElem?_set,List.getElem?_append,List.getElem?_replicate,List.length_append,List.length_replicate]
 grind
theorem rep_end (n:Nat):List.replicate n (-1:Int)++List.replicate (n-n) 0=toA n []:=by rw[toA_nil];simp
def mapK (g:Int→Int) (xs:List Int) (k:Nat):List Int:=(xs.take k).map g++xs.drop k
theorem mapK_len (g:Int→Int) (xs:List Int) {k:Nat} (hk:k≤xs.length):(mapK g xs k).length=xs.length:=by simp[mapK];omega
theorem mapK_get (g:Int→Int) (xs:List Int) {k:Nat} (hk:k<xs.length):(mapK g xs k).getD k 0=xs.getD k 0:=by
 unfold mapK
 rw[List.getD_eq_getElem?_getD,List.getElem?_append_right (by simp;omega),List.length_map,List.length_take,Nat.min_eq_left (by omega),Nat.sub_self,List.getElem?_drop,Nat.add_zero,←List.getD_eq_getElem?_getD]
theorem mapK_set (g:Int→Int) (xs:List Int) {k:Nat} (hk:k<xs.length):(mapK g xs k).set k (g (xs.getD k 0))=mapK g xs (k+1):=by
 unfold mapK
 rw[List.set_append_right _ _ (by simp;omega),List.length_map,List.length_take,Nat.min_eq_left (by omega),Nat.sub_self,List.drop_eq_getElem_cons hk,List.set_cons_zero,List.take_add_one,List.getElem?_eq_getElem hk,List.map_append,List.append_assoc,List.getD_eq_getElem?_getD,List.getElem?_eq_getElem hk]
 rfl
theorem mapK_end (g:Int→Int) (xs:List Int):mapK g xs xs.length=xs.map g:=by simp[mapK]
theorem mapK_zero (g:Int→Int) (xs:List Int):mapK g xs 0=xs:=by simp[mapK]
theorem mv_rise {H:Hp}:∀(us:List Int) (k:Nat),(∀p ∈ us,0≤p)→us.Pairwise (· < ·)→(mvL H k us).Pairwise (fun a b=>a.f<b.f)∧∀m ∈ mvL H k us,(m.f:Int) ∈ us:=by
 intro us
 induction us with
 |nil=>intro k _ _;exact⟨List.Pairwise.nil,fun m hm=>by cases hm⟩
 |cons p us ih=>
  intro k h0 hr
  obtain⟨h1,h2⟩:=List.pairwise_cons.1 hr
  unfold mvL
  split
  ·obtain⟨i1,i2⟩:=ih k (fun q hq=>h0 q (by simp[hq])) h2
   exact⟨i1,fun m hm=>List.mem_cons_of_mem _ (i2 m hm)⟩
  ·obtain⟨i1,i2⟩:=ih (dstM H k p+(chunk H.row p.toNat).toNat) (fun q hq=>h0 q (by simp[hq])) h2
   have hp:=h0 p (by simp)
   refine⟨List.Pairwise.cons (fun m hm => ?_) i1,fun m hm => ?_⟩
   ·have:=h1 _ (i2 m hm)
    show p.toNat<m.f
    omega
   ·rcases List.mem_cons.1 hm with rfl|hm
    ·simp only
     rw[Int.toNat_of_nonneg hp]
     simp
    ·exact List.mem_cons_of_mem _ (i2 m hm)
def dCm1 (k:Nat):Nat:=match k with
 |0=>25
 |1=>26
 |2=>27
 |3=>28
 |4=>29
 |5=>30
 |6=>31
 |7=>32
 |8=>33
 |9=>34
 |10=>35
 |11=>36
 |12=>37
 |13=>38
 |14=>39
 |15=>40
 |16=>41
 |17=>42
 |18=>43
 |19=>44
 |20=>24
 |21=>45
 |22=>46
 |23=>2
 |24=>3
 |_=>2000
theorem dCm1_inj:∀k,k<25→∀j,j<25→dCm1 j=dCm1 k→j=k:=by decide
def DCm1 (s:Nat):Bool:=s==25 || s==26 || s==27 || s==28 || s==29 || s==30 || s==31 || s==32 || s==33 || s==34 || s==35 || s==36 || s==37 || s==38 || s==39 || s==40 || s==41 || s==42 || s==43 || s==44 || s==24 || s==45 || s==46 || s==2 || s==3
def FCm1 (H:Hp) (u:List Int) (P g1 cr F T n0:Nat) (k:Nat) (t:Value) (W:World):Prop:=
 match k with
 |0=>t = .pointer (some ⟨P,0,none⟩)
 |1=>t = .pointer (some ⟨P,0,none⟩)
 |2=>t = .pointer (some ⟨P,2,none⟩)
 |3=>t = .slice (some ⟨g1,0,none⟩) H.row.length cr
 |4=>t = .pointer (some ⟨P,0,none⟩)
 |5=>t = .pointer (some ⟨P,0,none⟩)
 |6=>t = .pointer (some ⟨P,0,none⟩)
 |7=>t = .int .i64 H.half
 |8=>t = .int .i64 (F:Int)
 |9=>t = .pointer (some ⟨P,0,none⟩)
 |10=>t = .pointer (some ⟨P,0,none⟩)
 |11=>t = .pointer (some ⟨P,0,none⟩)
 |12=>t = .int .i64 H.half
 |13=>t = .int .i64 (F:Int)
 |14=>t = .pointer (some ⟨P,0,none⟩)
 |15=>t = .pointer (some ⟨P,0,none⟩)
 |16=>t = .pointer (some ⟨P,1,none⟩)
 |17=>t = .int .i64 H.old
 |18=>t = .int .i64 (T:Int)
 |19=>∃a c,t = .tuple #[.slice a u.length c,.bool true]∧rows.Own W n0 (.slice a u.length c) u
 |20=>∃a c,t = .tuple #[.slice a u.length c,.bool true]∧rows.Own W n0 (.slice a u.length c) u
 |21=>∃a c,t = .slice a u.length c∧rows.Own W n0 (.slice a u.length c) u
 |22=>t = .bool true
 |23=>∃a c,t = .slice a u.length c∧rows.Own W n0 (.slice a u.length c) u
 |24=>t = .bool true
 |_=>False
def dCm21 (k:Nat):Nat:=match k with
 |0=>116
 |1=>117
 |2=>118
 |3=>119
 |4=>120
 |5=>121
 |6=>122
 |7=>123
 |8=>124
 |9=>125
 |10=>126
 |_=>2000
theorem dCm21_inj:∀k,k<11→∀j,j<11→dCm21 j=dCm21 k→j=k:=by decide
def DCm21 (s:Nat):Bool:=s==116 || s==117 || s==118 || s==119 || s==120 || s==121 || s==122 || s==123 || s==124 || s==125 || s==126 || s==127
def FCm21 (H:Hp) (u:List Int) (P g1 cr ub uo vc yz td kk:Nat) (k:Nat) (t:Value) (_:World):Prop:=
 match k with
 |0=>t = .pointer (some ⟨P,0,none⟩)
 |1=>t = .pointer (some ⟨P,0,none⟩)
 |2=>t = .pointer (some ⟨P,2,none⟩)
 |3=>t = .slice (some ⟨g1,0,none⟩) H.row.length cr
 |4=>t = .int .i64 (kk:Int)
 |5=>t = .slice (some ⟨ub,uo,none⟩) u.length vc
 |6=>t = .int .i64 (yz:Int)
 |7=>t = .pointer (some ⟨ub,uo+yz,none⟩)
 |8=>t = .int .i64 (td:Int)
 |9=>t = .int .i64 (kk:Int)
 |10=>t = .int .i64 ((td-kk:Nat):Int)
 |_=>False
def dCm26 (k:Nat):Nat:=match k with
 |0=>137
 |1=>138
 |2=>139
 |3=>140
 |4=>141
 |5=>142
 |6=>143
 |7=>144
 |8=>145
 |9=>146
 |10=>147
 |11=>148
 |12=>149
 |13=>150
 |14=>151
 |15=>152
 |16=>153
 |_=>2000
theorem dCm26_inj:∀k,k<17→∀j,j<17→dCm26 j=dCm26 k→j=k:=by decide
def DCm26 (s:Nat):Bool:=s==137 || s==138 || s==139 || s==140 || s==141 || s==142 || s==143 || s==144 || s==145 || s==146 || s==147 || s==148 || s==149 || s==150 || s==151 || s==152 || s==153
def FCm26 (H:Hp) (u:List Int) (P g1 cr ub uo vc yz j td q wb wcp:Nat) (k:Nat) (t:Value) (_:World):Prop:=
 match k with
 |0=>t = .pointer (some ⟨P,0,none⟩)
 |1=>t = .pointer (some ⟨P,0,none⟩)
 |2=>t = .pointer (some ⟨P,2,none⟩)
 |3=>t = .slice (some ⟨g1,0,none⟩) H.row.length cr
 |4=>t = .int .i64 (td:Int)
 |5=>t = .int .i64 (q:Int)
 |6=>t = .int .i64 ((td+q:Nat):Int)
 |7=>t = .slice (some ⟨wb,0,none⟩) H.row.length wcp
 |8=>t = .slice (some ⟨ub,uo,none⟩) u.length vc
 |9=>t = .int .i64 (yz:Int)
 |10=>t = .pointer (some ⟨ub,uo+yz,none⟩)
 |11=>t = .int .i64 (j:Int)
 |12=>t = .int .i64 (q:Int)
 |13=>t = .int .i64 ((j+q:Nat):Int)
 |14=>t = .pointer (some ⟨wb,j+q,none⟩)
 |15=>t = .int .i64 (H.row.getD (j+q) 0)
 |16=>t = .pointer (some ⟨g1,td+q,none⟩)
 |_=>False
def dCm39 (k:Nat):Nat:=match k with
 |0=>210
 |1=>211
 |2=>212
 |3=>213
 |4=>214
 |5=>215
 |6=>216
 |7=>217
 |8=>218
 |9=>219
 |10=>220
 |11=>221
 |12=>222
 |13=>223
 |14=>224
 |15=>225
 |16=>226
 |17=>227
 |18=>228
 |19=>229
 |20=>230
 |21=>231
 |22=>232
 |23=>233
 |24=>234
 |25=>235
 |26=>236
 |_=>2000
theorem dCm39_inj:∀k,k<27→∀j,j<27→dCm39 j=dCm39 k→j=k:=by decide
def DCm39 (s:Nat):Bool:=s==210 || s==211 || s==212 || s==213 || s==214 || s==215 || s==216 || s==217 || s==218 || s==219 || s==220 || s==221 || s==222 || s==223 || s==224 || s==225 || s==226 || s==227 || s==228 || s==229 || s==230 || s==231 || s==232 || s==233 || s==234 || s==235 || s==236
def FCm39 (H:Hp) (OS:List Int) (P g1 cr ob oo oc yz j q gt:Nat) (x x2:Int) (k:Nat) (t:Value) (_:World):Prop:=
 match k with
 |0=>t = .pointer (some ⟨P,0,none⟩)
 |1=>t = .pointer (some ⟨P,0,none⟩)
 |2=>t = .pointer (some ⟨P,2,none⟩)
 |3=>t = .slice (some ⟨g1,0,none⟩) H.row.length cr
 |4=>t = .slice (some ⟨ob,oo,none⟩) OS.length oc
 |5=>t = .int .i64 (yz:Int)
 |6=>t = .pointer (some ⟨ob,oo+yz,none⟩)
 |7=>t = .int .i64 (j:Int)
 |8=>t = .int .i64 ((j+1:Nat):Int)
 |9=>t = .int .i64 (q:Int)
 |10=>t = .int .i64 ((j+1+q:Nat):Int)
 |11=>t = .slice (some ⟨gt,0,none⟩) H.row.length H.row.length
 |12=>t = .pointer (some ⟨P,0,none⟩)
 |13=>t = .pointer (some ⟨P,0,none⟩)
 |14=>t = .pointer (some ⟨P,2,none⟩)
 |15=>t = .slice (some ⟨g1,0,none⟩) H.row.length cr
 |16=>t = .slice (some ⟨ob,oo,none⟩) OS.length oc
 |17=>t = .int .i64 (yz:Int)
 |18=>t = .pointer (some ⟨ob,oo+yz,none⟩)
 |19=>t = .int .i64 (j:Int)
 |20=>t = .int .i64 ((j+1:Nat):Int)
 |21=>t = .int .i64 (q:Int)
 |22=>t = .int .i64 ((j+1+q:Nat):Int)
 |23=>t = .pointer (some ⟨g1,j+1+q,none⟩)
 |24=>t = .int .i64 x
 |25=>t = .int .i64 x2
 |26=>t = .pointer (some ⟨g1,j+1+q,none⟩)
 |_=>False
def dCm43 (k:Nat):Nat:=match k with
 |0=>241
 |1=>242
 |2=>243
 |3=>244
 |4=>245
 |5=>246
 |6=>247
 |7=>248
 |8=>249
 |9=>250
 |10=>251
 |11=>252
 |12=>253
 |13=>254
 |14=>255
 |_=>2000
theorem dCm43_inj:∀k,k<15→∀j,j<15→dCm43 j=dCm43 k→j=k:=by decide
def DCm43 (s:Nat):Bool:=s==241 || s==242 || s==243 || s==244 || s==245 || s==246 || s==247 || s==248 || s==249 || s==250 || s==251 || s==252 || s==253 || s==254 || s==255
def FCm43 (H:Hp) (P g2 co gt yz:Nat) (x x2:Int) (k:Nat) (t:Value) (_:World):Prop:=
 match k with
 |0=>t = .pointer (some ⟨P,0,none⟩)
 |1=>t = .pointer (some ⟨P,0,none⟩)
 |2=>t = .pointer (some ⟨P,5,none⟩)
 |3=>t = .slice (some ⟨g2,0,none⟩) H.roots.length co
 |4=>t = .int .i64 (yz:Int)
 |5=>t = .slice (some ⟨gt,0,none⟩) H.row.length H.row.length
 |6=>t = .pointer (some ⟨P,0,none⟩)
 |7=>t = .pointer (some ⟨P,0,none⟩)
 |8=>t = .pointer (some ⟨P,5,none⟩)
 |9=>t = .slice (some ⟨g2,0,none⟩) H.roots.length co
 |10=>t = .int .i64 (yz:Int)
 |11=>t = .pointer (some ⟨g2,yz,none⟩)
 |12=>t = .int .i64 x
 |13=>t = .int .i64 x2
 |14=>t = .pointer (some ⟨g2,yz,none⟩)
 |_=>False
def dCm47 (k:Nat):Nat:=match k with
 |0=>265
 |1=>266
 |2=>267
 |3=>268
 |4=>269
 |5=>270
 |6=>271
 |7=>272
 |8=>273
 |9=>274
 |10=>275
 |11=>276
 |12=>277
 |13=>278
 |14=>279
 |_=>2000
theorem dCm47_inj:∀k,k<15→∀j,j<15→dCm47 j=dCm47 k→j=k:=by decide
def DCm47 (s:Nat):Bool:=s==265 || s==266 || s==267 || s==268 || s==269 || s==270 || s==271 || s==272 || s==273 || s==274 || s==275 || s==276 || s==277 || s==278 || s==279
def FCm47 (H:Hp) (P g3 cm gt yz:Nat) (x x2:Int) (k:Nat) (t:Value) (_:World):Prop:=
 match k with
 |0=>t = .pointer (some ⟨P,0,none⟩)
 |1=>t = .pointer (some ⟨P,0,none⟩)
 |2=>t = .pointer (some ⟨P,6,none⟩)
 |3=>t = .slice (some ⟨g3,0,none⟩) H.mourned.length cm
 |4=>t = .int .i64 (yz:Int)
 |5=>t = .slice (some ⟨gt,0,none⟩) H.row.length H.row.length
 |6=>t = .pointer (some ⟨P,0,none⟩)
 |7=>t = .pointer (some ⟨P,0,none⟩)
 |8=>t = .pointer (some ⟨P,6,none⟩)
 |9=>t = .slice (some ⟨g3,0,none⟩) H.mourned.length cm
 |10=>t = .int .i64 (yz:Int)
 |11=>t = .pointer (some ⟨g3,yz,none⟩)
 |12=>t = .int .i64 x
 |13=>t = .int .i64 x2
 |14=>t = .pointer (some ⟨g3,yz,none⟩)
 |_=>False
set_option maxHeartbeats 64000000 in
theorem l15Compact_any {w:World} {P base g1 g2 g3 cr co cm:Nat} {vs:Value} {H:Hp} {ps:List Int} (RR:Rt H ps) (d:Dst w P base g1 g2 g3 vs)
    (hS:SS w w P base g1 g2 g3 cr co cm H.row.length H.roots.length H.mourned.length vs (.slice none 0 0) H [] H.row H.roots H.mourned) (hbs:base≤w.heap.size) (hs:hpSize H≤1048576) :
    Calls Tryz.prog 27 #[.pointer (some ⟨P,0,none⟩)] w fun e w'=>SwA w P base [P,g1,g2,g3] (.slice (some ⟨g1,0,none⟩) H.row.length cr) (.slice (some ⟨g2,0,none⟩) H.roots.length co) (.slice (some ⟨g3,0,none⟩) H.mourned.length cm) (cmpA H ps) e w':=by
 obtain⟨sa,sn,sc,rfl⟩:=ints_slice (own_ints hS.seen)
 have hv:∀k ∈ blk (.slice sa sn sc),k<w.heap.size:=fun k hk=>(blk_lt hS.seen k hk).2
 obtain⟨r,u,l,CP⟩:=cmp_parts RR
 have hA:=apart_of RR.some'
 have N:=(places_facts RR.some').1
 have hrl:=RR.len
 have hul:u.length≤500:=by have:=(places_plc RR.some').2;rw[CP.eps,List.length_append]at this;omega
 obtain⟨F,hF0⟩:∃F,2*hf H=F:=⟨_,rfl⟩
 obtain⟨T,hT0⟩:∃T,H.row.length=T:=⟨_,rfl⟩
 have hF:2*H.half=(F:Int):=by have:=N.half;omega
 have hTT:(F:Int)+H.old=(T:Int):=by have:=N.half;have:=N.old;have:=N.len;omega
 have hFT:F≤T:=by have:=N.len;omega
 have HHF:Hid (8≤H.half∧H.half≤200∧8≤H.old∧H.old≤400):=by
  have:=N.half
  have:=N.old
  have:=N.half1
  have:=N.old1
  show _∧_
  omega
 have HST:Hid (∀V,HpAt V (.slice (some ⟨g1,0,none⟩) H.row.length cr) (.slice (some ⟨g2,0,none⟩) H.roots.length co) (.slice (some ⟨g3,0,none⟩) H.mourned.length cm) (.slice sa sn sc) H→Calls Tryz.prog 51 #[hpv H (.slice (some ⟨g1,0,none⟩) H.row.length cr) (.slice (some ⟨g2,0,none⟩) H.roots.length co) (.slice (some ⟨g3,0,none⟩) H.mourned.length cm) (.slice sa sn sc)] V fun e w'=>e = .returned (.bool (isStr H ps))∧Below V.heap.size V w'):=fun V hV=>l15Straight_any hV RR hs
 have eup:(upW H).getD []=u:=by rw[CP.up];rfl
 have HAN:Hid (isStr H ps=false∨upNote H u=true→cmpA H ps=H):=fun h=>by
  unfold cmpA
  rw[eup,if_neg]
  rcases h with h|h<;>rw[h]<;>simp
 have HAY:Hid (isStr H ps=true→upNote H u=false→cmpA H ps=cmpF H):=fun h1 h2=>by unfold cmpA;rw[eup,h1,h2];rfl
 have HW4:Hid (∀V,IntsAt V (.slice (some ⟨g1,0,none⟩) H.row.length cr) H.row→Calls Tryz.prog 52 #[.slice (some ⟨g1,0,none⟩) H.row.length cr,.int .i64 (F:Int),.int .i64 (T:Int)] V fun e w'=>∃v',e = .returned (.tuple #[v',.bool true])∧rows.Own w' V.heap.size v' u∧Below V.heap.size V w'):=fun V hV=>by
  have q:=l4Walk_any hV (by omega) F T (by omega)
  have e:walkO H.row F T=some u:=by
   have:=CP.up
   unfold upW at this
   rw[←hF0,←hT0,CP.len]
   exact this
  rw[e]at q
  exact q
 have HPU:Hid (∀i,i<u.length→∃j:Nat,u.getD i 0=(j:Int)∧j<T∧F≤j∧chunk H.row j≠0∧j<H.row.length):=fun i hi=>by
  have hm:u.getD i 0 ∈ u:=by rw[List.getD_eq_getElem?_getD,List.getElem?_eq_getElem hi];exact List.getElem_mem hi
  have:=CP.up
  unfold upW at this
  have hlen:=CP.len
  obtain⟨j,e,h1,h2,h3⟩:=walkO_mem (by omega) this hm
  exact⟨j,e,by omega,by omega,h3,by omega⟩
 have HUN:Hid (∀i,i<u.length→ntH H (u.getD i 0)=true→upNote H u=true):=fun i hi h=>by
  unfold upNote
  rw[List.any_eq_true]
  exact⟨_,by rw[List.getD_eq_getElem?_getD,List.getElem?_eq_getElem hi];exact List.getElem_mem hi,h⟩
 have HUA:Hid ((∀i,i<u.length→ntH H (u.getD i 0)=false)→upNote H u=false):=fun h=>by
  unfold upNote
  rw[List.any_eq_false]
  intro x hx
  obtain⟨i,hi,rfl⟩:=List.getElem_of_mem hx
  have:=h i hi
  rw[List.getD_eq_getElem?_getD,List.getElem?_eq_getElem hi]at this
  rw[Option.getD_some]at this
  rw[this]
  decide
 have HRS:Hid ((mvL H F u).Pairwise (fun a b=>a.f<b.f)):=by
  have hris:Rising u:=by
   have:=CP.up
   unfold upW at this
   exact walkO_rising this
  refine (mv_rise u F (fun p hp => ?_) hris).1
  obtain⟨i,hi,rfl⟩:=List.getElem_of_mem hp
  obtain⟨j,e,_⟩:=HPU.out i hi
  rw[List.getD_eq_getElem?_getD,List.getElem?_eq_getElem hi]at e
  have e':u[i]=(j:Int):=e
  omega
 have HCP:Hid _:=CP
 have HRR:Hid _:=RR
 have HNU:Hid _:=N
 have HAP:Hid _:=hA
 have HDS:Hid _:=d
 have HVS:Hid _:=hv
 have HS0:Hid _:=hS
 have hPl:=d.lt
 have HG1:Hid (base≤g1):=(blk_lt hS.row g1 (by rw[blk_of];simp)).1
 have ST:=HST.out w (show HpAt w _ _ _ _ H from hS.hp)
 obtain⟨⟨z0,z1,z2,z3,z4⟩,⟨z5,z6,z7,z8⟩,_⟩:=nine_cells hS.nine
 have HF0:Hid _:=hF0
 have HT0:Hid _:=hT0
 have hrlT:T≤1000:=by omega
 clear CP RR hA N d hv hS eup HST hF0 hT0
 cases hbS:isStr H ps
 ·rw[hbS]at ST
  have HE:Hid _:=HAN.out (.inl hbS)
  clear hbS HAN HAY
  go_enter Tryz.func27,Tryz.ntmps27
  go_wp2_with (go_at_call 51;refine ST.mono ?_;clear ST;rintro e w2 ⟨rfl,b2⟩;have HS2:Hid _:=HS0.out.below b2;clear b2)
  refine bodyPost_ret (results_none rfl _ _ _) rfl ?_
  rw[HE.out]
  exact⟨_,rfl,HS2.out.nine,ss_own HS2.out HDS.out,HS2.out.ch⟩
 rw[hbS]at ST
 have HBS:Hid _:=hbS
 clear hbS
 go_enter Tryz.func27,Tryz.ntmps27
 go_upto_region 1 with (go_at_call 51;refine ST.mono ?_;clear ST z0 z1 z2 z3 z4 z5 z6 z7 z8;rintro e w1 ⟨rfl,b1⟩;have HS1:Hid _:=HS0.out.below b1;clear b1 HS0)
 have HWK:Hid (∀W,Below w1.heap.size w1 W→Calls Tryz.prog 52 #[.slice (some ⟨g1,0,none⟩) H.row.length cr,.int .i64 (F:Int),.int .i64 (T:Int)] W fun e w'=>∃v',e = .returned (.tuple #[v',.bool true])∧rows.Own w' W.heap.size v' u∧Below W.heap.size W w'):=fun W hW=>HW4.out W (show IntsAt W _ H.row from (HS1.out.below hW).hp.1)
 have hhf:=HHF.out
 go_cut [2,3] from 19 to 46 (fun v2 v3 wz=>∃va vc,v2 = .slice va u.length vc∧v3 = .bool true∧Hid (rows.Own wz w1.heap.size (.slice va u.length vc) u)∧Hid (Below w1.heap.size w1 wz))
 case first=>
  rename_i J K' HJ HK
  generalize hA0:(Act.mk _ [])=A0
  have e0:A0.tmps.getD 0 undef = .pointer (some ⟨P,0,none⟩):=by rw[←hA0];rfl
  have sz:A0.tmps.size=287:=by rw[←hA0];rfl
  have ed:A0.defers=[]:=by rw[←hA0]
  refine wp_region_guardedB (by kernel_rfl) DCm1 RelG relG_trans (relG_drew _) (by
      intro k o ho
      have hk:k<25:=(Array.getElem?_eq_some_iff.1 ho).1
      rcases (show k=0∨k=1∨k=2∨k=3∨k=4∨k=5∨k=6∨k=7∨k=8∨k=9∨k=10∨k=11∨k=12∨k=13∨k=14∨k=15∨k=16∨k=17∨k=18∨k=19∨k=20∨k=21∨k=22∨k=23∨k=24 by omega) with rfl|rfl|rfl|rfl|rfl|rfl|rfl|rfl|rfl|rfl|rfl|rfl|rfl|rfl|rfl|rfl|rfl|rfl|rfl|rfl|rfl|rfl|rfl|rfl|rfl<;>(obtain rfl:=Option.some.inj ho;simp[Region.binds])) 25 rfl dCm1 dCm1_inj (FCm1 H u P g1 cr F T w1.heap.size) ?_ ?_ ?_
  ·intro j t W W' hR h
   match j,h with
   |0,h=>exact h
   |1,h=>exact h
   |2,h=>exact h
   |3,h=>exact h
   |4,h=>exact h
   |5,h=>exact h
   |6,h=>exact h
   |7,h=>exact h
   |8,h=>exact h
   |9,h=>exact h
   |10,h=>exact h
   |11,h=>exact h
   |12,h=>exact h
   |13,h=>exact h
   |14,h=>exact h
   |15,h=>exact h
   |16,h=>exact h
   |17,h=>exact h
   |18,h=>exact h
   |19,h=>exact by obtain⟨a,c,e,o⟩:=h;exact⟨a,c,e,own_below o hR⟩
   |20,h=>exact by obtain⟨a,c,e,o⟩:=h;exact⟨a,c,e,own_below o hR⟩
   |21,h=>exact by obtain⟨a,c,e,o⟩:=h;exact⟨a,c,e,own_below o hR⟩
   |22,h=>exact h
   |23,h=>exact by obtain⟨a,c,e,o⟩:=h;exact⟨a,c,e,own_below o hR⟩
   |24,h=>exact h
   |_+25,h=>exact h.elim
  ·intro j o uq W hj ho hR hF
   have ev:∀s,DCm1 s=true→s<287→(ovr DCm1 A0 uq).tmps[s]?.getD undef=uq s:=fun s h1 h2=>(getD_at _ _).symm.trans (eval_in h1 (by omega))
   have o0:(ovr DCm1 A0 uq).tmps[0]?.getD undef=_:=(getD_at _ _).symm.trans ((eval_out (D:=DCm1) (a0:=A0) (u:=uq) (s:=0) rfl (by omega)).trans e0)
   obtain⟨⟨z0,z1,z2,-, -⟩,-, -⟩:=nine_cells (nine_below HS1.out.nine hR)
   rcases (show j=0∨j=1∨j=2∨j=3∨j=4∨j=5∨j=6∨j=7∨j=8∨j=9∨j=10∨j=11∨j=12∨j=13∨j=14∨j=15∨j=16∨j=17∨j=18∨j=19∨j=20∨j=21∨j=22∨j=23∨j=24 by omega) with rfl|rfl|rfl|rfl|rfl|rfl|rfl|rfl|rfl|rfl|rfl|rfl|rfl|rfl|rfl|rfl|rfl|rfl|rfl|rfl|rfl|rfl|rfl|rfl|rfl
   all_goals obtain rfl:=Option.some.inj ho
   ·refine tellVw (v:=.pointer (some ⟨P,0,none⟩)) (wanted_none rfl) ?_ ?_ ?_ (relG_refl _) ?_
    ·exact rfl
    ·exact rfl
    ·simp only[execOp]
     go_simp
     try go_num
     try (rw[IntKind.wrap_i64];omega)
    ·exact rfl
   ·have x0:=(ev 25 rfl (by decide)).trans (hF 0 (by decide) (by simp[Region.binds]))
    refine tellVw (v:=.pointer (some ⟨P,0,none⟩)) (wanted_none rfl) ?_ ?_ ?_ (relG_refl _) ?_
    ·exact rfl
    ·exact rfl
    ·simp only[execOp]
     go_simp
     try go_num
     try (rw[IntKind.wrap_i64];omega)
    ·exact rfl
   ·have x1:=(ev 26 rfl (by decide)).trans (hF 1 (by decide) (by simp[Region.binds]))
    refine tellVw (v:=.pointer (some ⟨P,2,none⟩)) (wanted_none rfl) ?_ ?_ ?_ (relG_refl _) ?_
    ·exact rfl
    ·exact rfl
    ·simp only[execOp]
     go_simp
     try go_num
     try (rw[IntKind.wrap_i64];omega)
    ·exact rfl
   ·have x2:=(ev 27 rfl (by decide)).trans (hF 2 (by decide) (by simp[Region.binds]))
    refine tellVw (v:=.slice (some ⟨g1,0,none⟩) H.row.length cr) (wanted_none rfl) ?_ ?_ ?_ (relG_refl _) ?_
    ·exact rfl
    ·exact rfl
    ·simp only[execOp]
     go_simp
     try go_num
     try (rw[IntKind.wrap_i64];omega)
    ·exact rfl
   ·refine tellVw (v:=.pointer (some ⟨P,0,none⟩)) (wanted_none rfl) ?_ ?_ ?_ (relG_refl _) ?_
    ·exact rfl
    ·exact rfl
    ·simp only[execOp]
     go_simp
     try go_num
     try (rw[IntKind.wrap_i64];omega)
    ·exact rfl
   ·have x4:=(ev 29 rfl (by decide)).trans (hF 4 (by decide) (by simp[Region.binds]))
    refine tellVw (v:=.pointer (some ⟨P,0,none⟩)) (wanted_none rfl) ?_ ?_ ?_ (relG_refl _) ?_
    ·exact rfl
    ·exact rfl
    ·simp only[execOp]
     go_simp
     try go_num
     try (rw[IntKind.wrap_i64];omega)
    ·exact rfl
   ·have x5:=(ev 30 rfl (by decide)).trans (hF 5 (by decide) (by simp[Region.binds]))
    refine tellVw (v:=.pointer (some ⟨P,0,none⟩)) (wanted_none rfl) ?_ ?_ ?_ (relG_refl _) ?_
    ·exact rfl
    ·exact rfl
    ·simp only[execOp]
     go_simp
     try go_num
     try (rw[IntKind.wrap_i64];omega)
    ·exact rfl
   ·have x6:=(ev 31 rfl (by decide)).trans (hF 6 (by decide) (by simp[Region.binds]))
    refine tellVw (v:=.int .i64 H.half) (wanted_none rfl) ?_ ?_ ?_ (relG_refl _) ?_
    ·exact rfl
    ·exact rfl
    ·simp only[execOp]
     go_simp
     try go_num
     try (rw[IntKind.wrap_i64];omega)
    ·exact rfl
   ·have x7:=(ev 32 rfl (by decide)).trans (hF 7 (by decide) (by simp[Region.binds]))
    refine tellVw (v:=.int .i64 (F:Int)) (wanted_none rfl) ?_ ?_ ?_ (relG_refl _) ?_
    ·exact rfl
    ·exact rfl
    ·simp only[execOp]
     go_simp
     try go_num
     try (rw[IntKind.wrap_i64];omega)
    ·exact rfl
   ·refine tellVw (v:=.pointer (some ⟨P,0,none⟩)) (wanted_none rfl) ?_ ?_ ?_ (relG_refl _) ?_
    ·exact rfl
    ·exact rfl
    ·simp only[execOp]
     go_simp
     try go_num
     try (rw[IntKind.wrap_i64];omega)
    ·exact rfl
   ·have x9:=(ev 34 rfl (by decide)).trans (hF 9 (by decide) (by simp[Region.binds]))
    refine tellVw (v:=.pointer (some ⟨P,0,none⟩)) (wanted_none rfl) ?_ ?_ ?_ (relG_refl _) ?_
    ·exact rfl
    ·exact rfl
    ·simp only[execOp]
     go_simp
     try go_num
     try (rw[IntKind.wrap_i64];omega)
    ·exact rfl
   ·have x10:=(ev 35 rfl (by decide)).trans (hF 10 (by decide) (by simp[Region.binds]))
    refine tellVw (v:=.pointer (some ⟨P,0,none⟩)) (wanted_none rfl) ?_ ?_ ?_ (relG_refl _) ?_
    ·exact rfl
    ·exact rfl
    ·simp only[execOp]
     go_simp
     try go_num
     try (rw[IntKind.wrap_i64];omega)
    ·exact rfl
   ·have x11:=(ev 36 rfl (by decide)).trans (hF 11 (by decide) (by simp[Region.binds]))
    refine tellVw (v:=.int .i64 H.half) (wanted_none rfl) ?_ ?_ ?_ (relG_refl _) ?_
    ·exact rfl
    ·exact rfl
    ·simp only[execOp]
     go_simp
     try go_num
     try (rw[IntKind.wrap_i64];omega)
    ·exact rfl
   ·have x12:=(ev 37 rfl (by decide)).trans (hF 12 (by decide) (by simp[Region.binds]))
    refine tellVw (v:=.int .i64 (F:Int)) (wanted_none rfl) ?_ ?_ ?_ (relG_refl _) ?_
    ·exact rfl
    ·exact rfl
    ·simp only[execOp]
     go_simp
     try go_num
     try (rw[IntKind.wrap_i64];omega)
    ·exact rfl
   ·refine tellVw (v:=.pointer (some ⟨P,0,none⟩)) (wanted_none rfl) ?_ ?_ ?_ (relG_refl _) ?_
    ·exact rfl
    ·exact rfl
    ·simp only[execOp]
     go_simp
     try go_num
     try (rw[IntKind.wrap_i64];omega)
    ·exact rfl
   ·have x14:=(ev 39 rfl (by decide)).trans (hF 14 (by decide) (by simp[Region.binds]))
    refine tellVw (v:=.pointer (some ⟨P,0,none⟩)) (wanted_none rfl) ?_ ?_ ?_ (relG_refl _) ?_
    ·exact rfl
    ·exact rfl
    ·simp only[execOp]
     go_simp
     try go_num
     try (rw[IntKind.wrap_i64];omega)
    ·exact rfl
   ·have x15:=(ev 40 rfl (by decide)).trans (hF 15 (by decide) (by simp[Region.binds]))
    refine tellVw (v:=.pointer (some ⟨P,1,none⟩)) (wanted_none rfl) ?_ ?_ ?_ (relG_refl _) ?_
    ·exact rfl
    ·exact rfl
    ·simp only[execOp]
     go_simp
     try go_num
     try (rw[IntKind.wrap_i64];omega)
    ·exact rfl
   ·have x16:=(ev 41 rfl (by decide)).trans (hF 16 (by decide) (by simp[Region.binds]))
    refine tellVw (v:=.int .i64 H.old) (wanted_none rfl) ?_ ?_ ?_ (relG_refl _) ?_
    ·exact rfl
    ·exact rfl
    ·simp only[execOp]
     go_simp
     try go_num
     try (rw[IntKind.wrap_i64];omega)
    ·exact rfl
   ·have x13:=(ev 38 rfl (by decide)).trans (hF 13 (by decide) (by simp[Region.binds]))
    have x17:=(ev 42 rfl (by decide)).trans (hF 17 (by decide) (by simp[Region.binds]))
    refine tellVw (v:=.int .i64 (T:Int)) (wanted_none rfl) ?_ ?_ ?_ (relG_refl _) ?_
    ·exact rfl
    ·exact rfl
    ·simp only[execOp]
     go_simp
     try go_num
     try (rw[IntKind.wrap_i64];omega)
    ·exact rfl
   ·have x3:=(ev 28 rfl (by decide)).trans (hF 3 (by decide) (by simp[Region.binds]))
    have x8:=(ev 33 rfl (by decide)).trans (hF 8 (by decide) (by simp[Region.binds]))
    have x18:=(ev 43 rfl (by decide)).trans (hF 18 (by decide) (by simp[Region.binds]))
    refine tellCw (f:=52) (args:=#[.slice (some ⟨g1,0,none⟩) H.row.length cr,.int .i64 (F:Int),.int .i64 (T:Int)]) (wanted_none rfl) rfl rfl ?_ ((HWK.out W hR).mono ?_)
    ·simp only[execOp]
     go_simp
    ·rintro e w' ⟨v',rfl,o',b'⟩
     obtain⟨va,vc,ev',_⟩:=own_ints o'
     subst ev'
     exact⟨_,rfl,b',va,vc,rfl,own_base o' hR.size⟩
   ·obtain⟨va,vc,ea,oa⟩:=hF 19 (by decide) (by simp[Region.binds])
    have x19:=(ev 44 rfl (by decide)).trans ea
    refine tellVw (v:=.tuple #[.slice va u.length vc,.bool true]) (wanted_none rfl) ?_ ?_ ?_ (relG_refl _) ?_
    ·exact rfl
    ·exact rfl
    ·simp only[execOp]
     go_simp
    ·exact⟨va,vc,rfl,oa⟩
   ·obtain⟨va,vc,ea,oa⟩:=hF 20 (by decide) (by simp[Region.binds])
    have x20:=(ev 24 rfl (by decide)).trans ea
    refine tellVw (v:=.slice va u.length vc) (wanted_none rfl) ?_ ?_ ?_ (relG_refl _) ?_
    ·exact rfl
    ·exact rfl
    ·simp only[execOp]
     go_simp
    ·exact⟨va,vc,rfl,oa⟩
   ·obtain⟨va,vc,ea,oa⟩:=hF 20 (by decide) (by simp[Region.binds])
    have x20:=(ev 24 rfl (by decide)).trans ea
    refine tellVw (v:=.bool true) (wanted_none rfl) ?_ ?_ ?_ (relG_refl _) ?_
    ·exact rfl
    ·exact rfl
    ·simp only[execOp]
     go_simp
    ·exact rfl
   ·obtain⟨va,vc,ea,oa⟩:=hF 21 (by decide) (by simp[Region.binds])
    have x21:=(ev 45 rfl (by decide)).trans ea
    refine tellVw (v:=.slice va u.length vc) (wanted_none rfl) ?_ ?_ ?_ (relG_refl _) ?_
    ·exact rfl
    ·exact rfl
    ·simp only[execOp]
     go_simp
    ·exact⟨va,vc,rfl,oa⟩
   ·have x22:=(ev 46 rfl (by decide)).trans (hF 22 (by decide) (by simp[Region.binds]))
    refine tellVw (v:=.bool true) (wanted_none rfl) ?_ ?_ ?_ (relG_refl _) ?_
    ·exact rfl
    ·exact rfl
    ·simp only[execOp]
     go_simp
     try go_num
     try (rw[IntKind.wrap_i64];omega)
    ·exact rfl
  ·intro uq W hR hF
   have f23:=hF 23 (by decide)
   have f22:=hF 24 (by decide)
   obtain⟨va,vc,ea,oa⟩:=f23
   have ea:uq 2 = .slice va u.length vc:=ea
   have eb:uq 3 = .bool true:=f22
   have HOA:Hid _:=oa
   have HRW:Hid (Below w1.heap.size w1 W):=hR
   clear hF f22 oa hR sz ed e0
   subst hA0
   simp[ovr,DCm1,List.range,List.range.loop,ea,eb]
   clear ea eb
   first|refine Met.intro (HJ _ _ ?_)|refine HK _ _ (Met.intro (HJ _ _ ?_))
   (repeat apply Exists.intro)
   refine⟨?rel,rfl⟩
   exact⟨va,vc,rfl,rfl,HOA,HRW⟩
 obtain⟨va,vc,rfl,rfl,HOA,HRW⟩:=hcut
 have HS2:Hid (SS w wc P base g1 g2 g3 cr co cm H.row.length H.roots.length H.mourned.length (.slice sa sn sc) (.slice va u.length vc) H u H.row H.roots H.mourned):=(HS1.out.below HRW.out).newList (own_base HOA.out HS1.out.ch.size)
 clear HS1 HOA HRW HWK HW4
 obtain⟨w2,hw2⟩:∃w2,w2=wc:=⟨_,rfl⟩
 subst hw2
 go_wp2_with fail
 go_loopw [4] (fun v wr=>∃y:Nat,y≤u.length∧v = .int .i64 (y:Int)∧(∀i,i<y→ntH H (u.getD i 0)=false)∧Below w2.heap.size w2 wr) (fun v _=>u.length-(intOf v).toNat)
 case atStart=>exact⟨0,Nat.zero_le _,rfl,fun i hi=>by omega,Below.refl _ _⟩
 case round=>
  obtain⟨y,hy,rfl,hno,hB⟩:=hrel
  have HB:Hid _:=hB
  have HNO:Hid _:=hno
  have HS:Hid _:=HS2.out.below hB
  by_cases hlt:y<u.length
  ·have hlt':(y:Int)<(u.length:Int):=by omega
   obtain⟨j,hj,hjT,hjF,hcj,hjl⟩:=HPU.out y hlt
   obtain⟨ub,uo,ev,hub,x0⟩:=ints_cell (own_ints HS.out.list) hlt
   subst ev
   have hjn:=HUN.out y hlt
   have hnx:ntH H (u.getD y 0)=false→∀i,i<y+1→ntH H (u.getD i 0)=false:=fun e i hi=>by
    by_cases e':i=y
    ·rw[e'];exact e
    ·exact hno i (by omega)
   rw[hj]at x0 hjn hnx
   have HJN:Hid _:=hjn
   have HNX:Hid _:=hnx
   have HNT:Hid (ntH H (j:Int)=(uF (H.row.getD j 0)==7)):=by show _=_;unfold ntH;rw[Int.toNat_natCast]
   obtain⟨⟨z0,z1,z2,z3,z4⟩,⟨z5,z6,z7,z8⟩⟩:=nine_grow HS.out.nine
   have Y0:=cell_grow x0
   have HL4:Hid (∀x:Ext wr.heap.size wr,Calls Tryz.prog 46 #[.slice (some ⟨g1,0,none⟩) H.row.length cr,.int .i64 (j:Int)] x.to fun e w''=>e = .returned (hv (uS (H.row.getD j 0)) (uF (H.row.getD j 0)) (uC (H.row.getD j 0)) (uH (H.row.getD j 0)) (uP (H.row.getD j 0)) (uM (H.row.getD j 0)))∧∃y:Ext wr.heap.size wr,w''=y.to):=fun x=>calls_grow (Nat.le_refl _) (l4Head_any (show IntsAt x.to _ H.row from (HS.out.below x.below).hp.1) j hjl)
   clear hB hno hjn hnx hj hcj
   generalize uF (H.row.getD j 0)=f at *
   generalize uS (H.row.getD j 0)=s at *
   generalize uC (H.row.getD j 0)=c at *
   generalize uH (H.row.getD j 0)=g at *
   generalize uP (H.row.getD j 0)=p at *
   generalize uM (H.row.getD j 0)=m at *
   have FF:=field_fmt s f c g p m
   go_upto_region 5 with fail
   haveI:=ext_any wr
   refine region_grow (n:=wr.heap.size) (by kernel_rfl) (by kernel_rfl) ?_
   repeat (go_big_quiet_step (first|(go_at_call 46;exact HL4.out _)))
   refine wpQuiet_nil ?_
   intro _ hw'
   obtain⟨E,rfl⟩:=hw'
   have HSx:Hid _:=HS.out.below E.below
   have HBx:Hid _:=HB.out.trans (E.below.mono HB.out.size)
   clear z0 z1 z2 z3 z4 z5 z6 z7 z8 Y0 HL4 HB x0
   generalize E.to=W at *
   clear E this
   by_cases h7:f=7
   ·have hb7:(f==7)=true:=by simpa using h7
    have HE:Hid _:=HAN.out (.inr (HJN.out (by rw[HNT.out,hb7])))
    subst h7
    go_wp2
    refine bodyPost_ret (results_none rfl _ _ _) rfl ?_
    rw[HE.out]
    exact⟨_,rfl,HSx.out.nine,ss_own HSx.out HDS.out,HSx.out.ch⟩
   ·have hb7:(f==7)=false:=by simpa using h7
    have HE:Hid _:=HNX.out (by rw[HNT.out,hb7])
    go_wp2
    exact⟨⟨y+1,by omega,by go_num,HE.out,HBx.out⟩,by simp[intOf];omega⟩
  ·have hlt':¬(y:Int)<(u.length:Int):=by omega
   have e:y=u.length:=by omega
   subst e
   have HE:Hid _:=HAY.out HBS.out (HUA.out hno)
   clear hB hno HB HNO HS2 HAN HAY HUN HUA HBS
   obtain⟨⟨z0,z1,z2,z3,z4⟩,⟨z5,z6,z7,z8⟩,_⟩:=nine_cells HS.out.nine
   have IN:=(show IntsAt wr (.slice (some ⟨g1,0,none⟩) H.row.length cr) H.row from HS.out.hp.1)
   obtain⟨w3,hw3⟩:∃w3,w3=wr:=⟨_,rfl⟩
   subst hw3
   have h3s:=HS.out.ch.size
   have z2a:(w3.alloc (.cells #[] 2)).cell? ⟨P,2,none⟩=some (.slice (some ⟨g1,0,none⟩) H.row.length cr):=(((Below.refl w3.heap.size w3).alloc (Nat.le_refl _) (.cells #[] 2)).cell (p:=⟨P,2,none⟩) (World.block_lt_of_cell? _ _ z2)).trans z2
   go_upto_region 7 with (at_builtin;refine wpList_copied (xs:=H.row) IN (by omega) rfl _ _ rfl (by simp[Act.eval]) rfl ?_;intro wb wcp w4 hg hO hB;have HOW:Hid (rows.Own w4 w3.heap.size (.slice (some ⟨wb,0,none⟩) H.row.length wcp) H.row):=hO;have HS4:Hid _:=HS.out.below hB;have HB4:Hid _:=hB;clear hO hB hg z0 z1 z2 z3 z4 z5 z6 z7 z8 z2a IN)
   obtain⟨i0,hi,hz0,hz1,hz2⟩:=info_parts info
   have hwb:=blk_lt HOW.out wb (by rw[blk_of];simp)
   have h4s:=HB4.out.size
   obtain⟨⟨z0,z1,z2,z3,z4⟩,⟨z5,z6,z7,z8⟩,_⟩:=nine_cells HS4.out.nine
   go_wp2_with (at_make;refine wpList_make_full _ rfl _ _ 22 rfl w4.heap.size 2 i0 (.int .i64 0) 1 Tryz.underlying22 hi hz0 hz1 _ _ _ _ H.row.length rfl rfl rfl rfl (by rw[hz2];omega) (by unfold maxLen;omega) (Nat.le_refl _) ?_;intro w5 hown hgrow)
   have b5:Below w4.heap.size w4 w5:=⟨hgrow.os,hgrow.tape,hgrow.output,hgrow.size,fun j hj=>hgrow.block j hj (by simp)⟩
   have hw45:w.heap.size≤w4.heap.size:=Nat.le_trans h3s h4s
   obtain⟨gt,hgt⟩:∃gt,gt=w4.heap.size:=⟨_,rfl⟩
   have HC0:Hid (CS w w5 P base g1 g2 g3 cr co cm (.slice sa sn sc) H u (.slice va u.length vc) (.slice (some ⟨wb,0,none⟩) H.row.length wcp) gt H.row.length H.row H.roots H.mourned (List.replicate 0 (-1)++List.replicate (H.row.length-0) 0)):=by
    have o5:=own_base (own_row4' hown) hw45
    refine⟨HS4.out.below b5,own_below (own_base HOW.out h3s) b5,?_,by simp,fun hc => ?_,fun hc => ?_,by omega⟩
    ·rw[hgt]
     unfold rows.Own at o5
     simpa [cellsOf] using o5
    ·have:=(blk_lt HS4.out.list _ hc).2
     omega
    ·rw[blk_of]at hc
     have:gt=wb:=by simpa using hc
     omega
   rw[←hgt]
   clear hown hgrow b5 HOW HS4 HB4 HS z0 z1 z2 z3 z4 z5 z6 z7 z8 hi hz0 hz1 hz2 h4s hwb
   have HGT:Hid _:=hgt
   clear hgt
   go_loopw [7] (fun v wr=>∃y:Nat,y≤H.row.length∧v = .int .i64 (y:Int)∧CS w wr P base g1 g2 g3 cr co cm (.slice sa sn sc) H u (.slice va u.length vc) (.slice (some ⟨wb,0,none⟩) H.row.length wcp) gt H.row.length H.row H.roots H.mourned (List.replicate y (-1)++List.replicate (H.row.length-y) 0)) (fun v _=>H.row.length-(intOf v).toNat)
   case atStart=>exact⟨0,Nat.zero_le _,rfl,HC0.out⟩
   case round=>
    obtain⟨y,hy,rfl,hC⟩:=hrel
    clear HC0
    have HC:Hid _:=hC
    by_cases hlt:y<H.row.length
    ·have hlt':(y:Int)<(H.row.length:Int):=by omega
     obtain⟨x0,f0⟩:=hC.toCell hlt
     have HN:Hid _:=hC.setTo HDS.out HVS.out y (-1)
     rw[rep_set hlt]at HN
     clear hC HC
     go_wp2
     exact⟨⟨y+1,by omega,by go_num,HN.out⟩,by simp[intOf];omega⟩
    ·have hlt':¬(y:Int)<(H.row.length:Int):=by omega
     have e:y=H.row.length:=by omega
     subst e
     rw[rep_end]at HC
     clear hC
     obtain⟨⟨z0,z1,z2,z3,z4⟩,⟨z5,z6,z7,z8⟩,_⟩:=nine_cells HC.out.ss.nine
     obtain⟨w6,hw6⟩:∃w6,w6=wr:=⟨_,rfl⟩
     subst hw6
     have HCI0:Hid (CI H F T u 0 F H.row []):=ci_start (by have:=HT0.out;omega) (by have:=HCP.out.ord;rw[HF0.out,HT0.out]at this;exact this)
     go_wp2_with fail
     clear z0 z1 z2 z3 z4 z5 z6 z7 z8
     go_loopw [8,9,10,11,12] (fun va8 vi _ _ _ wr=>∃(y kk:Nat) (xs:List Int) (ds:List Mv),y≤u.length∧vi = .int .i64 (y:Int)∧va8 = .int .i64 (kk:Int)∧CI H F T u y kk xs ds∧CS w wr P base g1 g2 g3 cr co cm (.slice sa sn sc) H u (.slice va u.length vc) (.slice (some ⟨wb,0,none⟩) H.row.length wcp) gt H.row.length xs H.roots H.mourned (toA H.row.length ds)) (fun _ vi _ _ _ _=>u.length-(intOf vi).toNat)
     case atStart=>exact⟨0,F,H.row,[],Nat.zero_le _,rfl,rfl,HCI0.out,HC.out⟩
     case round=>
      obtain⟨y,kk,xs,ds,hy,rfl,rfl,hI,hC⟩:=hrel
      clear HC HCI0
      have HC:Hid _:=hC
      have HCI:Hid _:=hI
      have hkT:=(hI.len HT0.out.symm).2
      by_cases hlt:y<u.length
      ·have hlt':(y:Int)<(u.length:Int):=by omega
       obtain⟨j,hj,hjT,hjF,hcj,hjl⟩:=HPU.out y hlt
       obtain⟨ub,uo,ev,hub,x0⟩:=ints_cell (own_ints hC.ss.list) hlt
       subst ev
       rw[hj]at x0
       have X0:Hid _:=x0
       have L4:=l4Head_any (own_ints hC.was) j hjl
       unfold hw at L4
       have HFR:Hid (uF (H.row.getD j 0)=6→CI H F T u (y+1) kk xs ds):=fun e=>hI.free hlt (by rw[hj,Int.toNat_natCast];exact e)
       have HAT:Hid (uF (H.row.getD j 0)≠6→∃m:Mv,m.f=j∧m.t=dstM H kk (j:Int)∧m.n=(sz (uS (H.row.getD j 0))).toNat∧mvL H kk (u.drop y)=m :: mvL H (m.t+m.n) (u.drop (y+1))∧OrdM H T kk (m :: mvL H (m.t+m.n) (u.drop (y+1)))):=fun e=>by
        obtain⟨m,e1,e2,e3⟩:=hI.at hlt (by rw[hj,Int.toNat_natCast];exact e)
        rw[hj,Int.toNat_natCast]at e1
        exact⟨m,by rw[e1],by rw[e1],by rw[e1,(chunk_sz hcj e).1],e2,e3⟩
       have HDP:Hid (dstM H kk (j:Int)=if uP (H.row.getD j 0)=true then j else kk):=by show _=_;unfold dstM;rw[Int.toNat_natCast]
       have HUB:=uS_bounds (H.row.getD j 0)
       have HBL:Hid (w.heap.size≤ub):=(blk_lt hC.ss.list ub (by simp[blk,Value.ownBlock])).1
       have HJY:Hid _:=hj
       have HBW:Hid (w.heap.size≤wr.heap.size):=hC.ss.ch.size
       clear hI hC hj hcj
       generalize uF (H.row.getD j 0)=f at *
       generalize uS (H.row.getD j 0)=s at *
       generalize uC (H.row.getD j 0)=c at *
       generalize uH (H.row.getD j 0)=g at *
       generalize uP (H.row.getD j 0)=p at *
       generalize uM (H.row.getD j 0)=m0 at *
       go_upto_region 17 with (go_at_call 46;refine L4.mono ?_;clear L4;rintro e w7 ⟨rfl,b7⟩;have HB7:Hid _:=b7;clear b7)
       have HHd:Hid (HeadAt (w7.alloc (hb s f c g p m0)) w7.heap.size s f c g p m0):=headAt_new w7 s f c g p m0
       have HBY:Hid (Below wr.heap.size wr (w7.alloc (hb s f c g p m0))):=HB7.out.alloc HB7.out.size _
       obtain⟨B,hB⟩:∃B,B=w7.heap.size:=⟨_,rfl⟩
       rw[←hB]at HHd
       have hBw:wr.heap.size≤B:=by rw[hB];exact HB7.out.size
       rw[←hB]
       generalize (w7.alloc (hb s f c g p m0))=wy at *
       clear hB HB7
       have HCd:Hid _:=HC.out.below HBY.out
       have x0y:=(HBY.out.cell (p:=⟨ub,uo+y,none⟩) hub).trans x0
       have huby:ub<wy.heap.size:=Nat.lt_of_lt_of_le hub HBY.out.size
       obtain⟨t0,t1,t2,t3,t4,t5,_⟩:=headAt_cells HHd.out
       clear x0 X0 HC HBY
       by_cases h6:f=6
       ·have HN:Hid _:=HFR.out h6
        subst h6
        clear HAT HFR
        go_wp2
        exact⟨⟨y+1,kk,xs,ds,by omega,by go_num,rfl,HN.out,HCd.out⟩,by simp[intOf];omega⟩
       obtain⟨mv,em1,em2,em3,em4,em5⟩:=HAT.out h6
       have hb6:(f==6)=false:=by simpa using h6
       have hsz:=sz_bounds HUB.1 HUB.2
       obtain⟨n,hn⟩:∃n:Nat,sz s=(n:Int):=⟨(sz s).toNat,by omega⟩
       have en:mv.n=n:=by rw[em3,hn,Int.toNat_natCast]
       obtain⟨td,htd⟩:∃td,mv.t=td:=⟨_,rfl⟩
       have hod:=em5.1
       rw[en,em1,htd]at hod
       have hole:=ord_le em5.2
       rw[en,htd]at hole
       have HE4:Hid _:=em4
       have HMF:Hid _:=em1
       have HMT:Hid _:=htd
       have HMN:Hid _:=en
       have HTD:Hid (td=if p=true then j else kk):=by show _=_;rw[←htd,em2];exact HDP.out
       have hn2:2≤n:=hod.2.2.2.2.1
       have hkt:kk≤td:=hod.1
       have hpar:(td-kk) % 2=0:=hod.2.1
       have htj:td≤j:=hod.2.2.1
       have hjn:j+n≤T:=hod.2.2.2.1
       have hjnl:j+n≤H.row.length:=by have:=HT0.out;omega
       have S2:=l2Size_any s
       rw[hn]at hsz
       have HSZ:Hid _:=hn
       clear HAT HFR em1 em2 em3 em4 em5 htd en hod hn
       obtain⟨s9,e9⟩:∃s9,s9=s:=⟨_,rfl⟩
       have L2:=l2Size_any s wy HUB.1 HUB.2
       rw[HSZ.out]at L2
       clear S2 e9 s9
       go_upto_region 19 with (go_at_call 53;refine L2.mono ?_;clear L2;rintro e w8 ⟨rfl,hw8⟩;rw[hw8];clear hw8 w8)
       have hBg:B≠g1:=by have:=hPl.1;have:=HCd.out.ss.ch.size;have:=hBw;intro e;subst e;have:=HBW.out;omega
       have HXL:Hid (xs.length=H.row.length):=HCd.out.ss.lr
       have hTl:T≤H.row.length:=by have:=HT0.out;omega
       go_upto_if 109 with fail
       go_cut [8] from 90 to 163 (fun v8 wz=>v8 = .int .i64 (td:Int)∧Hid (CS w wz P base g1 g2 g3 cr co cm (.slice sa sn sc) H u (.slice (some ⟨ub,uo,none⟩) u.length vc) (.slice (some ⟨wb,0,none⟩) H.row.length wcp) gt H.row.length (gapR xs kk td) H.roots H.mourned (toA H.row.length ds))∧Hid (HeadAt wz B s f c g p m0))
       case first=>
        cases p
        ·have e:td=kk:=HTD.out
         have HGS:Hid (gapR xs kk td=xs):=by show _=_;unfold gapR;rw[if_neg (by omega)]
         go_wp2_with fail
         go_meet
         exact⟨by rw[e],by rw[HGS.out];exact HCd,HHd⟩
        ·have e:td=j:=HTD.out
         subst e
         by_cases hgt:kk<td
         ·have hgt':(kk:Int)<(td:Int):=by omega
          have HGR:Hid (gapR xs kk td=freeR xs kk (td-kk)):=by show _=_;unfold gapR;rw[if_pos hgt]
          have HGL:Hid ((freeR xs kk (td-kk)).length=H.row.length):=by show _=_;rw[freeR_length (by rw[HXL.out];omega) (by omega)];exact HXL.out
          have HLF:Hid (∀W,Below wy.heap.size wy W→Calls Tryz.prog 54 #[.slice (some ⟨g1,0,none⟩) H.row.length cr,.int .i64 (kk:Int),.int .i64 ((td-kk:Nat):Int)] W fun e w'=>(∃v',e = .returned v')∧w'.ownsRow base 2 1 (.slice (some ⟨g1,0,none⟩) H.row.length cr) H.row.length (cellsOf (freeR xs kk (td-kk)))∧W.grownBy w' (some g1)):=fun W hW=>l4Free_g (k:=kk) (n:=td-kk) (HCd.out.below hW).ss.row HXL.out (by omega) HG1.out (by have:=(HCd.out.below hW).ss.ch.size;omega) (by omega) (by omega)
          have x0d:=x0y
          have hubd:=huby
          have HHe:=HHd
          go_upto_region 21 with fail
          clear t0 t1 t2 t3 t4 t5
          generalize hA0:(Act.mk _ [])=A0
          have e0:A0.tmps.getD 0 undef = .pointer (some ⟨P,0,none⟩):=by rw[←hA0];rfl
          have e2:A0.tmps.getD 2 undef = .slice (some ⟨ub,uo,none⟩) u.length vc:=by rw[←hA0];rfl
          have e8:A0.tmps.getD 8 undef = .int .i64 (kk:Int):=by rw[←hA0];rfl
          have e9:A0.tmps.getD 9 undef = .int .i64 (y:Int):=by rw[←hA0];rfl
          have sz:A0.tmps.size=287:=by rw[←hA0];rfl
          refine wp_region_last (by kernel_rfl) DCm21 (by simp) ?_ 11 rfl dCm21 dCm21_inj (FCm21 H u P g1 cr ub uo vc y td kk) ?_ ?_ ?_ ?_
          ·intro k o ho
           have hk:k<12:=(Array.getElem?_eq_some_iff.1 ho).1
           rcases (show k=0∨k=1∨k=2∨k=3∨k=4∨k=5∨k=6∨k=7∨k=8∨k=9∨k=10∨k=11 by omega) with rfl|rfl|rfl|rfl|rfl|rfl|rfl|rfl|rfl|rfl|rfl|rfl<;>(obtain rfl:=Option.some.inj ho;simp)
          ·intro k t W W' hb h
           match k,h with
           |0,h=>exact h
           |1,h=>exact h
           |2,h=>exact h
           |3,h=>exact h
           |4,h=>exact h
           |5,h=>exact h
           |6,h=>exact h
           |7,h=>exact h
           |8,h=>exact h
           |9,h=>exact h
           |10,h=>exact h
           |_+11,h=>exact h.elim
          ·intro l hC kk hkk
           have CL:=hC 11 _ rfl (fun h=>by omega)
           have l3:l 3=true:=CL ⟨3,.data⟩ (by simp) (by simp[Region.binds])
           have l4:l 4=true:=CL ⟨4,.data⟩ (by simp) (by simp[Region.binds])
           have l10:l 10=true:=CL ⟨10,.data⟩ (by simp) (by simp[Region.binds])
           have l2:l 2=true:=hC 3 _ rfl (fun _=>l3) ⟨2,.data⟩ (by simp) (by simp[Region.binds])
           have l1:l 1=true:=hC 2 _ rfl (fun _=>l2) ⟨1,.data⟩ (by simp) (by simp[Region.binds])
           have l0:l 0=true:=hC 1 _ rfl (fun _=>l1) ⟨0,.data⟩ (by simp) (by simp[Region.binds])
           have l8:l 8=true:=hC 10 _ rfl (fun _=>l10) ⟨8,.data⟩ (by simp) (by simp[Region.binds])
           have l9:l 9=true:=hC 10 _ rfl (fun _=>l10) ⟨9,.data⟩ (by simp) (by simp[Region.binds])
           have l7:l 7=true:=hC 8 _ rfl (fun _=>l8) ⟨7,.data⟩ (by simp) (by simp[Region.binds])
           have l5:l 5=true:=hC 7 _ rfl (fun _=>l7) ⟨5,.data⟩ (by simp) (by simp[Region.binds])
           have l6:l 6=true:=hC 7 _ rfl (fun _=>l7) ⟨6,.data⟩ (by simp) (by simp[Region.binds])
           rcases (show kk=0∨kk=1∨kk=2∨kk=3∨kk=4∨kk=5∨kk=6∨kk=7∨kk=8∨kk=9∨kk=10 by omega) with rfl|rfl|rfl|rfl|rfl|rfl|rfl|rfl|rfl|rfl|rfl
           ·exact l0
           ·exact l1
           ·exact l2
           ·exact l3
           ·exact l4
           ·exact l5
           ·exact l6
           ·exact l7
           ·exact l8
           ·exact l9
           ·exact l10
          ·intro k o uq W hk ho hB hF
           have ev:∀s,DCm21 s=true→s<287→(ovr DCm21 A0 uq).tmps[s]?.getD undef=uq s:=fun s h1 h2=>(getD_at _ _).symm.trans (eval_in h1 (by omega))
           have o0:(ovr DCm21 A0 uq).tmps[0]?.getD undef=_:=(getD_at _ _).symm.trans ((eval_out (D:=DCm21) (a0:=A0) (u:=uq) (s:=0) rfl (by omega)).trans e0)
           have o2:(ovr DCm21 A0 uq).tmps[2]?.getD undef=_:=(getD_at _ _).symm.trans ((eval_out (D:=DCm21) (a0:=A0) (u:=uq) (s:=2) rfl (by omega)).trans e2)
           have o8:(ovr DCm21 A0 uq).tmps[8]?.getD undef=_:=(getD_at _ _).symm.trans ((eval_out (D:=DCm21) (a0:=A0) (u:=uq) (s:=8) rfl (by omega)).trans e8)
           have o9:(ovr DCm21 A0 uq).tmps[9]?.getD undef=_:=(getD_at _ _).symm.trans ((eval_out (D:=DCm21) (a0:=A0) (u:=uq) (s:=9) rfl (by omega)).trans e9)
           have SW:=HCd.out.below hB
           obtain⟨⟨_,_,z2,_,_⟩,_,_⟩:=nine_cells SW.ss.nine
           have xl:=(hB.cell (p:=⟨ub,uo+y,none⟩) hubd).trans x0d
           clear SW
           rcases (show k=0∨k=1∨k=2∨k=3∨k=4∨k=5∨k=6∨k=7∨k=8∨k=9∨k=10 by omega) with rfl|rfl|rfl|rfl|rfl|rfl|rfl|rfl|rfl|rfl|rfl
           all_goals obtain rfl:=Option.some.inj ho
           ·refine plainV (v:=.pointer (some ⟨P,0,none⟩)) rfl rfl ?_ rfl
            simp only[execOp]
            go_simp
            try go_num
            try (rw[IntKind.wrap_i64];omega)
           ·have x0:=(ev 116 rfl (by decide)).trans (hF 0 (by decide) (by simp[Region.binds]))
            refine plainV (v:=.pointer (some ⟨P,0,none⟩)) rfl rfl ?_ rfl
            simp only[execOp]
            go_simp
            try go_num
            try (rw[IntKind.wrap_i64];omega)
           ·have x1:=(ev 117 rfl (by decide)).trans (hF 1 (by decide) (by simp[Region.binds]))
            refine plainV (v:=.pointer (some ⟨P,2,none⟩)) rfl rfl ?_ rfl
            simp only[execOp]
            go_simp
            try go_num
            try (rw[IntKind.wrap_i64];omega)
           ·have x2:=(ev 118 rfl (by decide)).trans (hF 2 (by decide) (by simp[Region.binds]))
            refine plainV (v:=.slice (some ⟨g1,0,none⟩) H.row.length cr) rfl rfl ?_ rfl
            simp only[execOp]
            go_simp
            try go_num
            try (rw[IntKind.wrap_i64];omega)
           ·refine plainV (v:=.int .i64 (kk:Int)) rfl rfl ?_ rfl
            simp only[execOp]
            go_simp
            try go_num
            try (rw[IntKind.wrap_i64];omega)
           ·refine plainV (v:=.slice (some ⟨ub,uo,none⟩) u.length vc) rfl rfl ?_ rfl
            simp only[execOp]
            go_simp
            try go_num
            try (rw[IntKind.wrap_i64];omega)
           ·refine plainV (v:=.int .i64 (y:Int)) rfl rfl ?_ rfl
            simp only[execOp]
            go_simp
            try go_num
            try (rw[IntKind.wrap_i64];omega)
           ·have x5:=(ev 121 rfl (by decide)).trans (hF 5 (by decide) (by simp[Region.binds]))
            have x6:=(ev 122 rfl (by decide)).trans (hF 6 (by decide) (by simp[Region.binds]))
            refine plainV (v:=.pointer (some ⟨ub,uo+y,none⟩)) rfl rfl ?_ rfl
            simp only[execOp]
            go_simp
            try go_num
            try (rw[IntKind.wrap_i64];omega)
           ·have x7:=(ev 123 rfl (by decide)).trans (hF 7 (by decide) (by simp[Region.binds]))
            refine plainV (v:=.int .i64 (td:Int)) rfl rfl ?_ rfl
            simp only[execOp]
            go_simp
            try go_num
            try (rw[IntKind.wrap_i64];omega)
           ·refine plainV (v:=.int .i64 (kk:Int)) rfl rfl ?_ rfl
            simp only[execOp]
            go_simp
            try go_num
            try (rw[IntKind.wrap_i64];omega)
           ·have x8:=(ev 124 rfl (by decide)).trans (hF 8 (by decide) (by simp[Region.binds]))
            have x9:=(ev 125 rfl (by decide)).trans (hF 9 (by decide) (by simp[Region.binds]))
            refine plainV (v:=.int .i64 ((td-kk:Nat):Int)) rfl rfl ?_ rfl
            simp only[execOp]
            go_simp
            try go_num
            try (rw[IntKind.wrap_i64];omega)
          ·intro o uq W ho hB hF
           obtain rfl:=Option.some.inj ho
           have ev:∀s,DCm21 s=true→s<287→(ovr DCm21 A0 uq).tmps[s]?.getD undef=uq s:=fun s h1 h2=>(getD_at _ _).symm.trans (eval_in h1 (by omega))
           have o0:(ovr DCm21 A0 uq).tmps[0]?.getD undef=_:=(getD_at _ _).symm.trans ((eval_out (D:=DCm21) (a0:=A0) (u:=uq) (s:=0) rfl (by omega)).trans e0)
           have o2:(ovr DCm21 A0 uq).tmps[2]?.getD undef=_:=(getD_at _ _).symm.trans ((eval_out (D:=DCm21) (a0:=A0) (u:=uq) (s:=2) rfl (by omega)).trans e2)
           have o8:(ovr DCm21 A0 uq).tmps[8]?.getD undef=_:=(getD_at _ _).symm.trans ((eval_out (D:=DCm21) (a0:=A0) (u:=uq) (s:=8) rfl (by omega)).trans e8)
           have o9:(ovr DCm21 A0 uq).tmps[9]?.getD undef=_:=(getD_at _ _).symm.trans ((eval_out (D:=DCm21) (a0:=A0) (u:=uq) (s:=9) rfl (by omega)).trans e9)
           have SW:=HCd.out.below hB
           obtain⟨⟨_,_,z2,_,_⟩,_,_⟩:=nine_cells SW.ss.nine
           have xl:=(hB.cell (p:=⟨ub,uo+y,none⟩) hubd).trans x0d
           clear SW
           have x3:=(ev 119 rfl (by decide)).trans (hF 3 (by decide))
           have x4:=(ev 120 rfl (by decide)).trans (hF 4 (by decide))
           have x10:=(ev 126 rfl (by decide)).trans (hF 10 (by decide))
           refine lastC (f:=54) (args:=#[.slice (some ⟨g1,0,none⟩) H.row.length cr,.int .i64 (kk:Int),.int .i64 ((td-kk:Nat):Int)]) rfl rfl ?_ ((HLF.out W hB).mono ?_)
           ·simp only[execOp]
            go_simp
           ·rintro e w' ⟨⟨v9,rfl⟩,r9,g9⟩
            refine⟨v9,rfl,?_⟩
            have HSW:Hid _:=(HCd.out.below hB).rowCh HDS.out r9 HGL.out (chR g9)
            have HHW:Hid _:=headAt_ch (headAt_below HHe.out hB) (chR g9) hBg
            have xlw:=(ch_cell (p:=⟨ub,uo+y,none⟩) (chR g9) (World.block_lt_of_cell? _ _ xl) (by simp;have:=HBL.out;have:=hPl.1;omega)).trans xl
            clear r9 g9 xl z2 hF x3 x4 x10 ev o0 o2 o8 o9 e0 e2 e8 e9 sz
            subst hA0
            simp[ovr,DCm21,List.range,List.range.loop]
            go_wp2_with fail
            go_meet
            exact⟨rfl,by rw[HGR.out];exact HSW,HHW⟩
         ·have e2:td=kk:=by omega
          have HGS:Hid (gapR xs kk td=xs):=by show _=_;unfold gapR;rw[if_neg (by omega)]
          have hgt':¬(kk:Int)<(td:Int):=by omega
          go_wp2_with fail
          go_meet
          exact⟨by rw[e2],by rw[HGS.out];exact HCd,HHd⟩
       obtain⟨rfl,HCg,HHg⟩:=hcut
       clear t0 t1 t2 t3 t4 t5 x0y HCd HHd huby
       obtain⟨w8,hw8⟩:∃w8,w8=wc:=⟨_,rfl⟩
       subst hw8
       have HWS:=HCI.out.words HT0.out.symm HE4.out
       rw[HMT.out,HMN.out,HMF.out]at HWS
       have HWL:Hid _:=HWS.1
       have HWT:Hid _:=HWS.2.1
       have HW0:Hid _:=HWS.2.2.1
       have HWN:Hid _:=HWS.2.2.2
       clear HWS
       have HC40:Hid (CS w w8 P base g1 g2 g3 cr co cm (.slice sa sn sc) H u (.slice (some ⟨ub,uo,none⟩) u.length vc) (.slice (some ⟨wb,0,none⟩) H.row.length wcp) gt H.row.length (putR (gapR xs kk td) td ((wdM H mv).take 0)) H.roots H.mourned (toA H.row.length ds)):=by show CS _ _ _ _ _ _ _ _ _ _ _ _ _ _ _ _ _ _ _ _ _;rw[HW0.out];exact HCg.out
       go_wp2_with fail
       go_loopw [12] (fun v12 wr=>∃q:Nat,q≤n∧v12 = .int .i64 (q:Int)∧CS w wr P base g1 g2 g3 cr co cm (.slice sa sn sc) H u (.slice (some ⟨ub,uo,none⟩) u.length vc) (.slice (some ⟨wb,0,none⟩) H.row.length wcp) gt H.row.length (putR (gapR xs kk td) td ((wdM H mv).take q)) H.roots H.mourned (toA H.row.length ds)∧HeadAt wr B s f c g p m0) (fun v12 _=>n-(intOf v12).toNat)
       case atStart=>exact⟨0,Nat.zero_le _,rfl,HC40.out,HHg.out⟩
       case round=>
        obtain⟨q,hq,rfl,hC4,hH4⟩:=hrel
        clear HC40 HCg HHg
        have HCz:Hid _:=hC4
        have HHz:Hid _:=hH4
        have x0z:=list_cell hC4.ss.list hlt
        rw[HJY.out]at x0z
        have hubz:ub<wr.heap.size:=World.block_lt_of_cell? _ _ x0z
        by_cases hql:q<n
        ·have hql':(q:Int)<(n:Int):=by omega
         have xwz:=list_cell hC4.was (show j+q<H.row.length by omega)
         rw[Nat.zero_add]at xwz
         have hwbz:wb<wr.heap.size:=World.block_lt_of_cell? _ _ xwz
         have HRL:Hid _:=HWL.out q hq
         have HST4:Hid _:=HWT.out q hql
         have hjq:(j:Int)+(q:Int)<(H.row.length:Int):=by omega
         have htq:(td:Int)+(q:Int)<(H.row.length:Int):=by omega
         clear hC4 hH4
         go_upto_region 26 with fail
         generalize hA0:(Act.mk _ [])=A0
         have e0:A0.tmps.getD 0 undef = .pointer (some ⟨P,0,none⟩):=by rw[←hA0];rfl
         have e2:A0.tmps.getD 2 undef = .slice (some ⟨ub,uo,none⟩) u.length vc:=by rw[←hA0];rfl
         have e5:A0.tmps.getD 5 undef = .slice (some ⟨wb,0,none⟩) H.row.length wcp:=by rw[←hA0];rfl
         have e8:A0.tmps.getD 8 undef = .int .i64 (td:Int):=by rw[←hA0];rfl
         have e9:A0.tmps.getD 9 undef = .int .i64 (y:Int):=by rw[←hA0];rfl
         have e12:A0.tmps.getD 12 undef = .int .i64 (q:Int):=by rw[←hA0];rfl
         have sz:A0.tmps.size=287:=by rw[←hA0];rfl
         refine wp_region_last (by kernel_rfl) DCm26 (by simp) ?_ 17 rfl dCm26 dCm26_inj (FCm26 H u P g1 cr ub uo vc y j td q wb wcp) ?_ ?_ ?_ ?_
         ·intro k o ho
          have hk:k<18:=(Array.getElem?_eq_some_iff.1 ho).1
          rcases (show k=0∨k=1∨k=2∨k=3∨k=4∨k=5∨k=6∨k=7∨k=8∨k=9∨k=10∨k=11∨k=12∨k=13∨k=14∨k=15∨k=16∨k=17 by omega) with rfl|rfl|rfl|rfl|rfl|rfl|rfl|rfl|rfl|rfl|rfl|rfl|rfl|rfl|rfl|rfl|rfl|rfl<;>(obtain rfl:=Option.some.inj ho;simp)
         ·intro k t W W' hb h
          match k,h with
          |0,h=>exact h
          |1,h=>exact h
          |2,h=>exact h
          |3,h=>exact h
          |4,h=>exact h
          |5,h=>exact h
          |6,h=>exact h
          |7,h=>exact h
          |8,h=>exact h
          |9,h=>exact h
          |10,h=>exact h
          |11,h=>exact h
          |12,h=>exact h
          |13,h=>exact h
          |14,h=>exact h
          |15,h=>exact h
          |16,h=>exact h
          |_+17,h=>exact h.elim
         ·intro l hC kk hkk
          have CL:=hC 17 _ rfl (fun h=>by omega)
          have l15:l 15=true:=CL ⟨15,.data⟩ (by simp) (by simp[Region.binds])
          have l16:l 16=true:=CL ⟨16,.data⟩ (by simp) (by simp[Region.binds])
          have l14:l 14=true:=hC 15 _ rfl (fun _=>l15) ⟨14,.data⟩ (by simp) (by simp[Region.binds])
          have l7:l 7=true:=hC 14 _ rfl (fun _=>l14) ⟨7,.data⟩ (by simp) (by simp[Region.binds])
          have l13:l 13=true:=hC 14 _ rfl (fun _=>l14) ⟨13,.data⟩ (by simp) (by simp[Region.binds])
          have l11:l 11=true:=hC 13 _ rfl (fun _=>l13) ⟨11,.data⟩ (by simp) (by simp[Region.binds])
          have l12:l 12=true:=hC 13 _ rfl (fun _=>l13) ⟨12,.data⟩ (by simp) (by simp[Region.binds])
          have l10:l 10=true:=hC 11 _ rfl (fun _=>l11) ⟨10,.data⟩ (by simp) (by simp[Region.binds])
          have l8:l 8=true:=hC 10 _ rfl (fun _=>l10) ⟨8,.data⟩ (by simp) (by simp[Region.binds])
          have l9:l 9=true:=hC 10 _ rfl (fun _=>l10) ⟨9,.data⟩ (by simp) (by simp[Region.binds])
          have l3:l 3=true:=hC 16 _ rfl (fun _=>l16) ⟨3,.data⟩ (by simp) (by simp[Region.binds])
          have l6:l 6=true:=hC 16 _ rfl (fun _=>l16) ⟨6,.data⟩ (by simp) (by simp[Region.binds])
          have l2:l 2=true:=hC 3 _ rfl (fun _=>l3) ⟨2,.data⟩ (by simp) (by simp[Region.binds])
          have l1:l 1=true:=hC 2 _ rfl (fun _=>l2) ⟨1,.data⟩ (by simp) (by simp[Region.binds])
          have l0:l 0=true:=hC 1 _ rfl (fun _=>l1) ⟨0,.data⟩ (by simp) (by simp[Region.binds])
          have l4:l 4=true:=hC 6 _ rfl (fun _=>l6) ⟨4,.data⟩ (by simp) (by simp[Region.binds])
          have l5:l 5=true:=hC 6 _ rfl (fun _=>l6) ⟨5,.data⟩ (by simp) (by simp[Region.binds])
          rcases (show kk=0∨kk=1∨kk=2∨kk=3∨kk=4∨kk=5∨kk=6∨kk=7∨kk=8∨kk=9∨kk=10∨kk=11∨kk=12∨kk=13∨kk=14∨kk=15∨kk=16 by omega) with rfl|rfl|rfl|rfl|rfl|rfl|rfl|rfl|rfl|rfl|rfl|rfl|rfl|rfl|rfl|rfl|rfl
          ·exact l0
          ·exact l1
          ·exact l2
          ·exact l3
          ·exact l4
          ·exact l5
          ·exact l6
          ·exact l7
          ·exact l8
          ·exact l9
          ·exact l10
          ·exact l11
          ·exact l12
          ·exact l13
          ·exact l14
          ·exact l15
          ·exact l16
         ·intro k o uq W hk ho hB hF
          have ev:∀s,DCm26 s=true→s<287→(ovr DCm26 A0 uq).tmps[s]?.getD undef=uq s:=fun s h1 h2=>(getD_at _ _).symm.trans (eval_in h1 (by omega))
          have o0:(ovr DCm26 A0 uq).tmps[0]?.getD undef=_:=(getD_at _ _).symm.trans ((eval_out (D:=DCm26) (a0:=A0) (u:=uq) (s:=0) rfl (by omega)).trans e0)
          have o2:(ovr DCm26 A0 uq).tmps[2]?.getD undef=_:=(getD_at _ _).symm.trans ((eval_out (D:=DCm26) (a0:=A0) (u:=uq) (s:=2) rfl (by omega)).trans e2)
          have o5:(ovr DCm26 A0 uq).tmps[5]?.getD undef=_:=(getD_at _ _).symm.trans ((eval_out (D:=DCm26) (a0:=A0) (u:=uq) (s:=5) rfl (by omega)).trans e5)
          have o8:(ovr DCm26 A0 uq).tmps[8]?.getD undef=_:=(getD_at _ _).symm.trans ((eval_out (D:=DCm26) (a0:=A0) (u:=uq) (s:=8) rfl (by omega)).trans e8)
          have o9:(ovr DCm26 A0 uq).tmps[9]?.getD undef=_:=(getD_at _ _).symm.trans ((eval_out (D:=DCm26) (a0:=A0) (u:=uq) (s:=9) rfl (by omega)).trans e9)
          have o12:(ovr DCm26 A0 uq).tmps[12]?.getD undef=_:=(getD_at _ _).symm.trans ((eval_out (D:=DCm26) (a0:=A0) (u:=uq) (s:=12) rfl (by omega)).trans e12)
          have SW:=HCz.out.below hB
          obtain⟨⟨_,_,z2,_,_⟩,_,_⟩:=nine_cells SW.ss.nine
          have xl:=(hB.cell (p:=⟨ub,uo+y,none⟩) hubz).trans x0z
          have xw:=(hB.cell (p:=⟨wb,j+q,none⟩) hwbz).trans xwz
          clear SW
          rcases (show k=0∨k=1∨k=2∨k=3∨k=4∨k=5∨k=6∨k=7∨k=8∨k=9∨k=10∨k=11∨k=12∨k=13∨k=14∨k=15∨k=16 by omega) with rfl|rfl|rfl|rfl|rfl|rfl|rfl|rfl|rfl|rfl|rfl|rfl|rfl|rfl|rfl|rfl|rfl
          all_goals obtain rfl:=Option.some.inj ho
          ·refine plainV (v:=.pointer (some ⟨P,0,none⟩)) rfl rfl ?_ rfl
           simp only[execOp]
           go_simp
           try go_num
           try (rw[IntKind.wrap_i64];omega)
          ·have x0:=(ev 137 rfl (by decide)).trans (hF 0 (by decide) (by simp[Region.binds]))
           refine plainV (v:=.pointer (some ⟨P,0,none⟩)) rfl rfl ?_ rfl
           simp only[execOp]
           go_simp
           try go_num
           try (rw[IntKind.wrap_i64];omega)
          ·have x1:=(ev 138 rfl (by decide)).trans (hF 1 (by decide) (by simp[Region.binds]))
           refine plainV (v:=.pointer (some ⟨P,2,none⟩)) rfl rfl ?_ rfl
           simp only[execOp]
           go_simp
           try go_num
           try (rw[IntKind.wrap_i64];omega)
          ·have x2:=(ev 139 rfl (by decide)).trans (hF 2 (by decide) (by simp[Region.binds]))
           refine plainV (v:=.slice (some ⟨g1,0,none⟩) H.row.length cr) rfl rfl ?_ rfl
           simp only[execOp]
           go_simp
           try go_num
           try (rw[IntKind.wrap_i64];omega)
          ·refine plainV (v:=.int .i64 (td:Int)) rfl rfl ?_ rfl
           simp only[execOp]
           go_simp
           try go_num
           try (rw[IntKind.wrap_i64];omega)
          ·refine plainV (v:=.int .i64 (q:Int)) rfl rfl ?_ rfl
           simp only[execOp]
           go_simp
           try go_num
           try (rw[IntKind.wrap_i64];omega)
          ·have x4:=(ev 141 rfl (by decide)).trans (hF 4 (by decide) (by simp[Region.binds]))
           have x5:=(ev 142 rfl (by decide)).trans (hF 5 (by decide) (by simp[Region.binds]))
           refine plainV (v:=.int .i64 ((td+q:Nat):Int)) rfl rfl ?_ rfl
           simp only[execOp]
           go_simp
           try go_num
           try (rw[IntKind.wrap_i64];omega)
          ·refine plainV (v:=.slice (some ⟨wb,0,none⟩) H.row.length wcp) rfl rfl ?_ rfl
           simp only[execOp]
           go_simp
           try go_num
           try (rw[IntKind.wrap_i64];omega)
          ·refine plainV (v:=.slice (some ⟨ub,uo,none⟩) u.length vc) rfl rfl ?_ rfl
           simp only[execOp]
           go_simp
           try go_num
           try (rw[IntKind.wrap_i64];omega)
          ·refine plainV (v:=.int .i64 (y:Int)) rfl rfl ?_ rfl
           simp only[execOp]
           go_simp
           try go_num
           try (rw[IntKind.wrap_i64];omega)
          ·have x8:=(ev 145 rfl (by decide)).trans (hF 8 (by decide) (by simp[Region.binds]))
           have x9:=(ev 146 rfl (by decide)).trans (hF 9 (by decide) (by simp[Region.binds]))
           refine plainV (v:=.pointer (some ⟨ub,uo+y,none⟩)) rfl rfl ?_ rfl
           simp only[execOp]
           go_simp
           try go_num
           try (rw[IntKind.wrap_i64];omega)
          ·have x10:=(ev 147 rfl (by decide)).trans (hF 10 (by decide) (by simp[Region.binds]))
           refine plainV (v:=.int .i64 (j:Int)) rfl rfl ?_ rfl
           simp only[execOp]
           go_simp
           try go_num
           try (rw[IntKind.wrap_i64];omega)
          ·refine plainV (v:=.int .i64 (q:Int)) rfl rfl ?_ rfl
           simp only[execOp]
           go_simp
           try go_num
           try (rw[IntKind.wrap_i64];omega)
          ·have x11:=(ev 148 rfl (by decide)).trans (hF 11 (by decide) (by simp[Region.binds]))
           have x12:=(ev 149 rfl (by decide)).trans (hF 12 (by decide) (by simp[Region.binds]))
           refine plainV (v:=.int .i64 ((j+q:Nat):Int)) rfl rfl ?_ rfl
           simp only[execOp]
           go_simp
           try go_num
           try (rw[IntKind.wrap_i64];omega)
          ·have x7:=(ev 144 rfl (by decide)).trans (hF 7 (by decide) (by simp[Region.binds]))
           have x13:=(ev 150 rfl (by decide)).trans (hF 13 (by decide) (by simp[Region.binds]))
           refine plainV (v:=.pointer (some ⟨wb,j+q,none⟩)) rfl rfl ?_ rfl
           simp only[execOp]
           go_simp
           try go_num
           try (rw[IntKind.wrap_i64];omega)
          ·have x14:=(ev 151 rfl (by decide)).trans (hF 14 (by decide) (by simp[Region.binds]))
           refine plainV (v:=.int .i64 (H.row.getD (j+q) 0)) rfl rfl ?_ rfl
           simp only[execOp]
           go_simp
           try go_num
           try (rw[IntKind.wrap_i64];omega)
          ·have x3:=(ev 140 rfl (by decide)).trans (hF 3 (by decide) (by simp[Region.binds]))
           have x6:=(ev 143 rfl (by decide)).trans (hF 6 (by decide) (by simp[Region.binds]))
           refine plainV (v:=.pointer (some ⟨g1,td+q,none⟩)) rfl rfl ?_ rfl
           simp only[execOp]
           go_simp
           try go_num
           try (rw[IntKind.wrap_i64];omega)
         ·intro o uq W ho hB hF
          obtain rfl:=Option.some.inj ho
          have ev:∀s,DCm26 s=true→s<287→(ovr DCm26 A0 uq).tmps[s]?.getD undef=uq s:=fun s h1 h2=>(getD_at _ _).symm.trans (eval_in h1 (by omega))
          have o0:(ovr DCm26 A0 uq).tmps[0]?.getD undef=_:=(getD_at _ _).symm.trans ((eval_out (D:=DCm26) (a0:=A0) (u:=uq) (s:=0) rfl (by omega)).trans e0)
          have o2:(ovr DCm26 A0 uq).tmps[2]?.getD undef=_:=(getD_at _ _).symm.trans ((eval_out (D:=DCm26) (a0:=A0) (u:=uq) (s:=2) rfl (by omega)).trans e2)
          have o5:(ovr DCm26 A0 uq).tmps[5]?.getD undef=_:=(getD_at _ _).symm.trans ((eval_out (D:=DCm26) (a0:=A0) (u:=uq) (s:=5) rfl (by omega)).trans e5)
          have o8:(ovr DCm26 A0 uq).tmps[8]?.getD undef=_:=(getD_at _ _).symm.trans ((eval_out (D:=DCm26) (a0:=A0) (u:=uq) (s:=8) rfl (by omega)).trans e8)
          have o9:(ovr DCm26 A0 uq).tmps[9]?.getD undef=_:=(getD_at _ _).symm.trans ((eval_out (D:=DCm26) (a0:=A0) (u:=uq) (s:=9) rfl (by omega)).trans e9)
          have o12:(ovr DCm26 A0 uq).tmps[12]?.getD undef=_:=(getD_at _ _).symm.trans ((eval_out (D:=DCm26) (a0:=A0) (u:=uq) (s:=12) rfl (by omega)).trans e12)
          have SW:=HCz.out.below hB
          obtain⟨⟨_,_,z2,_,_⟩,_,_⟩:=nine_cells SW.ss.nine
          have xl:=(hB.cell (p:=⟨ub,uo+y,none⟩) hubz).trans x0z
          have xw:=(hB.cell (p:=⟨wb,j+q,none⟩) hwbz).trans xwz
          clear SW
          have x15:=(ev 152 rfl (by decide)).trans (hF 15 (by decide))
          have x16:=(ev 153 rfl (by decide)).trans (hF 16 (by decide))
          obtain⟨cw,cf⟩:=(HCz.out.below hB).ss.rowCell (q:=td+q) (by rw[HRL.out];omega)
          refine plainS (W':=W.setCell ⟨g1,td+q,none⟩ (.int .i64 (H.row.getD (j+q) 0))) rfl ?_ ?_
          ·simp only[execOp]
           go_simp
          have HSW:Hid _:=(HCz.out.below hB).setRow HDS.out (td+q) (H.row.getD (j+q) 0)
          have HHW:Hid _:=headAt_ch (headAt_below HHz.out hB) (one_ch W g1 (td+q) (.int .i64 (H.row.getD (j+q) 0))) hBg
          clear xl xw z2 hF x15 x16 ev o0 o2 o5 o8 o9 o12 e0 e2 e5 e8 e9 e12 sz cw cf
          subst hA0
          simp[ovr,DCm26,List.range,List.range.loop]
          go_wp2
          exact⟨⟨q+1,by omega,by go_num,by rw[←HST4.out];exact HSW.out,HHW.out⟩,by simp[intOf];omega⟩
        ·have hql':¬(q:Int)<(n:Int):=by omega
         have e:q=n:=by omega
         subst e
         rw[HWN.out]at HCz
         obtain⟨y0,y1⟩:=hC4.toCell (show j<H.row.length by omega)
         have hjl':(j:Int)<(H.row.length:Int):=by omega
         have HN:=HCz.out.setTo HDS.out HVS.out j (td:Int)
         have hmo:(toA H.row.length ds).set j (td:Int)=toA H.row.length (ds++[mv]):=by
          have:=toA_more (n:=H.row.length) (ds:=ds) (m:=mv) (fun x hx=>by
           have pr:=HRS.out
           rw[←HCI.out.don,HE4.out]at pr
           have:=(List.pairwise_append.1 pr).2.2 x hx mv (by simp)
           omega)
          rw[HMF.out,HMT.out]at this
          exact this
         rw[hmo]at HN
         have HNN:Hid _:=HN
         have HGO:=HCI.out.goes HT0.out.symm HE4.out
         rw[HMT.out,HMN.out]at HGO
         have HGOO:Hid _:=HGO
         clear hC4 hH4 HN hmo HGO
         go_wp2
         exact⟨⟨y+1,td+q,_,ds++[mv],by omega,by go_num,by go_num,HGOO.out,HNN.out⟩,by simp[intOf];omega⟩
      ·have hlt':¬(y:Int)<(u.length:Int):=by omega
       have e:y=u.length:=by omega
       subst e
       obtain⟨d1,d2⟩:=hI.done HT0.out.symm
       have HGR:Hid _:=d1
       have HDE:Hid _:=d2
       have HXL:Hid (xs.length=H.row.length):=hC.ss.lr
       have hTl:T≤H.row.length:=by have:=HT0.out;omega
       have hpar:(T-kk) % 2=0:=by have:=hI.ord;rw[List.drop_length]at this;exact this.2
       rw[d2]at HC
       clear hI hC d1 d2
       obtain⟨⟨z0,z1,z2,z3,z4⟩,⟨z5,z6,z7,z8⟩,_⟩:=nine_cells HC.out.ss.nine
       have hhf:=HHF.out
       have iw:IntKind.i64.wrap (2*H.half)=(F:Int):=by rw[IntKind.wrap_i64];omega
       have iw2:IntKind.i64.wrap ((F:Int)+H.old)=(T:Int):=by rw[IntKind.wrap_i64];omega
       go_upto_region 29 with fail
       go_quiet (fail)
       clear z0 z1 z2 z3 z4 z5 z6 z7 z8
       generalize hwd:wr.drewN _=wd at *
       have BQ:Below wr.heap.size wr wd:=by rw[←hwd];exact bel_of_drewN ⟨_,rfl⟩
       clear hwd
       have HCd:Hid _:=HC.out.below BQ
       clear BQ
       obtain⟨⟨z0,z1,z2,z3,z4⟩,⟨z5,z6,z7,z8⟩,_⟩:=nine_cells HCd.out.ss.nine
       go_upto_if 176 with fail
       go_cut [13] from 164 to 185 (fun v13 wz=>v13 = .int .i64 (T:Int)∧Hid (CS w wz P base g1 g2 g3 cr co cm (.slice sa sn sc) H u (.slice va u.length vc) (.slice (some ⟨wb,0,none⟩) H.row.length wcp) gt H.row.length (cmpR H F T u) H.roots H.mourned (toA H.row.length (mvL H F u))))
       case first=>
        by_cases hgt:kk<T
        ·have hgt':(kk:Int)<(T:Int):=by omega
         have HGE:Hid (freeR xs kk (T-kk)=cmpR H F T u):=by have:=HGR.out;unfold gapR at this;rw[if_pos hgt]at this;exact this
         have HLF:=l4Free_g (k:=kk) (n:=T-kk) HCd.out.ss.row HXL.out (by omega) HG1.out (by have:=HCd.out.ss.ch.size;omega) (by omega) (by omega)
         rw[HGE.out,show ((T-kk:Nat):Int)=(T:Int)-(kk:Int) by omega]at HLF
         have iw3:IntKind.i64.wrap ((T:Int)-(kk:Int))=(T:Int)-(kk:Int):=by rw[IntKind.wrap_i64];omega
         have HRE:Hid ((cmpR H F T u).length=H.row.length):=by show _=_;rw[←HGE.out,freeR_length (by rw[HXL.out];omega) (by omega)];exact HXL.out
         go_wp2_with (go_at_call 54;refine HLF.mono ?_;clear HLF;rintro e w9 ⟨⟨v9,rfl⟩,r9,g9⟩;have HC9:Hid _:=HCd.out.rowCh HDS.out r9 HRE.out (chR g9);clear r9 g9 z0 z1 z2 z3 z4 z5 z6 z7 z8)
         go_meet
         exact⟨rfl,HC9⟩
        ·have hgt':¬(kk:Int)<(T:Int):=by omega
         have HGE:Hid (xs=cmpR H F T u):=by have:=HGR.out;unfold gapR at this;rw[if_neg hgt]at this;exact this
         go_wp2_with fail
         go_meet
         exact⟨rfl,by rw[←HGE.out];exact HCd⟩
       obtain⟨rfl,HCm⟩:=hcut
       clear z0 z1 z2 z3 z4 z5 z6 z7 z8 HCd HC iw iw2 HGR HDE HXL hpar hkT hTl HCI
       obtain⟨w9,hw9⟩:∃w9,w9=wc:=⟨_,rfl⟩
       subst hw9
       have ER:cmpR H F T u=(cmpH H).row:=by
        show _=cmpR H (2*hf H) (2*hf H+od H) ((upW H).getD [])
        rw[HCP.out.up,←HCP.out.len,HT0.out,HF0.out]
        rfl
       rw[ER]at HCm
       have HXL:Hid ((cmpH H).row.length=H.row.length):=HCP.out.len1
       have HPL:Hid _:=HCP.out.plc
       have OB:=l9Objects_any (show HpAt w9 (.slice (some ⟨g1,0,none⟩) (cmpH H).row.length cr) (.slice (some ⟨g2,0,none⟩) H.roots.length co) (.slice (some ⟨g3,0,none⟩) H.mourned.length cm) (.slice sa sn sc) (cmpH H) from HCm.out.ss.hp) HPL.out
       rw[HXL.out]at OB
       have OB2:Calls Tryz.prog 55 #[hpv H (.slice (some ⟨g1,0,none⟩) H.row.length cr) (.slice (some ⟨g2,0,none⟩) H.roots.length co) (.slice (some ⟨g3,0,none⟩) H.mourned.length cm) (.slice sa sn sc)] w9 fun e w'=>∃v',e = .returned v'∧rows.Own w' w9.heap.size v' (objL (cmpH H) (r++l))∧Below w9.heap.size w9 w':=OB
       have HOE:Hid (objL (cmpH H) (r++l)=cmpO H):=HCP.out.g.2.symm
       have hos:(objL (cmpH H) (r++l)).length≤500:=Nat.le_trans (objL_len _ _) (places_plc HPL.out).2
       have HAP1:Hid _:=apart_of HPL.out
       have HRI1:Hid (Rising (objL (cmpH H) (r++l))):=(places_rising HPL.out).filter _
       have HBT:Hid (∀q,q<(toA H.row.length (mvL H F u)).length → -1≤(toA H.row.length (mvL H F u)).getD q 0∧(toA H.row.length (mvL H F u)).getD q 0≤1000):=fun q hq=>by
        rw[toA_len]at hq
        rw[toA_get hq]
        rcases dstOf_mem (ms:=mvL H F u) (a:=q) with e|⟨m,hm,_,e⟩
        ·omega
        ·have:=(HCP.out.small HNU.out m (by rw[HF0.out];exact hm)).1
         omega
       have HIN:Hid (∀x,wordIn H ps x=true→isA x=true→(av x).toNat<H.row.length):=fun x h1 h2=>by
        unfold wordIn at h1
        rw[h2]at h1
        simp only[Bool.not_true,Bool.false_or,Bool.and_eq_true,decide_eq_true_eq]at h1
        obtain⟨jj,ej,_,hj⟩:=HAP.out.nat _ h1.2.1
        rw[ej,Int.toNat_natCast]
        exact hj
       have HPO:Hid (∀i,i<(objL (cmpH H) (r++l)).length→∃j cn:Nat,(objL (cmpH H) (r++l)).getD i 0=(j:Int)∧j<H.row.length∧cnS ((cmpH H).row.getD j 0)=(cn:Int)∧(slotsOf (cmpH H) (j:Int)).length=cn∧j+1+cn≤H.row.length∧(j:Int) ∈ r++l∧∀q,q<cn→isA ((cmpH H).row.getD (j+1+q) 0)=true→(av ((cmpH H).row.getD (j+1+q) 0)).toNat<H.row.length):=fun i hi=>by
        have hm:(objL (cmpH H) (r++l)).getD i 0 ∈ objL (cmpH H) (r++l):=by rw[List.getD_eq_getElem?_getD,List.getElem?_eq_getElem hi];exact List.getElem_mem hi
        obtain⟨hpp,h6⟩:=objL_mem hm
        obtain⟨j,ej,hc,hjl⟩:=HAP1.out.nat _ hpp
        have hcs:=chunk_slots hc
        have hsl:=slots_len (H:=cmpH H) (j:=j) hc
        have hxl:=HXL.out
        have k1:j<H.row.length:=by omega
        have k2:cnS ((cmpH H).row.getD j 0)=((cnS ((cmpH H).row.getD j 0)).toNat:Int):=by omega
        have k3:j+1+(cnS ((cmpH H).row.getD j 0)).toNat≤H.row.length:=by omega
        obtain⟨p0,hp0,hs0,-⟩:=HCP.out.objs _ hm
        rw[ej]at hs0 hpp
        refine⟨j,(cnS ((cmpH H).row.getD j 0)).toNat,ej,k1,k2,hsl,k3,hpp,fun q hq hx=>HIN.out _ ?_ hx⟩
        rw[←slots_getD (H:=cmpH H) hq,hs0]
        refine HRR.out.slot_in (objL_mem hp0).1 ?_
        have hq':q<(slotsOf H p0).length:=by rw[←hs0,hsl];exact hq
        rw[List.getD_eq_getElem?_getD,List.getElem?_eq_getElem hq']
        exact List.getElem_mem hq'
       have HRIN:Hid (∀x ∈ H.roots++H.mourned,isA x=true→(av x).toNat<H.row.length):=fun x hx=>HIN.out x (HRR.out.root_in hx)
       have HWDA:Hid (∀W x,IntsAt W (.slice (some ⟨gt,0,none⟩) H.row.length H.row.length) (toA H.row.length (mvL H F u))→(isA x=true→(av x).toNat<H.row.length)→Calls Tryz.prog 57 #[.slice (some ⟨gt,0,none⟩) H.row.length H.row.length,.int .i64 x] W fun e w'=>e = .returned (.int .i64 (nwW (mvL H F u) x))∧w'=W):=fun W x hW hx=>by
        rw[nwW_toA hx]
        exact l15Word_any hW (by rw[toA_len];exact hx) HBT.out
       have HR6:Hid (H.roots.length=6):=HNU.out.roots
       have hm40:H.mourned.length≤40:=HNU.out.mourned
       obtain⟨f1,f2,f3,_⟩:=HCP.out.fin HNU.out
       have HUP2:Hid _:=f2
       have HNU2:Hid _:=f3
       have HGG:Hid (cmpG H=mvL H F u):=by show _=_;rw[HCP.out.g.1,HF0.out]
       clear OB f1 f2 f3 HBT HIN
       obtain⟨⟨z0,z1,z2,z3,z4⟩,⟨z5,z6,z7,z8⟩,_⟩:=nine_cells HCm.out.ss.nine
       have hw9s:=HCm.out.ss.ch.size
       generalize hOS:objL (cmpH H) (r++l)=OS at *
       have HOS:Hid _:=hOS
       clear hOS
       go_wp2_with (go_at_call 55;refine OB2.mono ?_;clear OB2 z0 z1 z2 z3 z4 z5 z6 z7 z8;rintro e w10 ⟨v10,rfl,O10,b10⟩;have HCn:Hid _:=HCm.out.below b10;have HO10:Hid _:=O10;obtain⟨oa,oc,eoa,_,_,_,_⟩:=own_ints O10;subst eoa;clear O10 b10)
       clear HCm
       go_loopw [15,16] (fun v15 _ wr=>∃y:Nat,y≤OS.length∧v15 = .int .i64 (y:Int)∧CS w wr P base g1 g2 g3 cr co cm (.slice sa sn sc) H u (.slice va u.length vc) (.slice (some ⟨wb,0,none⟩) H.row.length wcp) gt H.row.length (ledP (nwW (mvL H F u)) (cmpH H).row (covA (cmpH H) (OS.take y))) H.roots H.mourned (toA H.row.length (mvL H F u))∧rows.Own wr w9.heap.size (.slice oa OS.length oc) OS) (fun v15 _ _=>OS.length-(intOf v15).toNat)
       case atStart=>exact⟨0,Nat.zero_le _,rfl,by rw[show covA (cmpH H) (OS.take 0)=(fun _=>false) from rfl,ledP_none];exact HCn.out,HO10.out⟩
       case round=>
        obtain⟨y,hy,rfl,hC,hO⟩:=hrel
        clear HCn HO10
        have HC:Hid _:=hC
        have HO:Hid _:=hO
        by_cases hlt:y<OS.length
        ·have hlt':(y:Int)<(OS.length:Int):=by omega
         obtain⟨j,cn,hj,hjl,hcn,hsl,hjc,hjm,hav⟩:=HPO.out y hlt
         obtain⟨ob,oo,ev,hob,x0⟩:=ints_cell (own_ints hO) hlt
         subst ev
         have HJ0:Hid _:=hj
         have HCN:Hid _:=hcn
         have HAV:Hid _:=hav
         have hobw:w9.heap.size≤ob:=(blk_lt hO ob (by simp[blk,Value.ownBlock])).1
         have hobj:∀p ∈ OS,p ∈ objL (cmpH H) (r++l):=fun p hp=>by rw[HOS.out];exact hp
         have hris:Rising OS:=HRI1.out
         have HLA:Hid (∀q,j≤q→covA (cmpH H) (OS.take y) q=false):=fun q hq=>covA_later HAP1.out hobj hris hlt (by rw[hj,Int.toNat_natCast];exact hq)
         have HNX:Hid (ledP (nwW (mvL H F u)) (cmpH H).row (addK (covA (cmpH H) (OS.take y)) j cn)=ledP (nwW (mvL H F u)) (cmpH H).row (covA (cmpH H) (OS.take (y+1)))):=by
          refine ledP_ext (fun q _ => ?_)
          rw[covA_take hlt,hj,←hsl,addK_lw]
         have HK0:Hid (CS w wr P base g1 g2 g3 cr co cm (.slice sa sn sc) H u (.slice va u.length vc) (.slice (some ⟨wb,0,none⟩) H.row.length wcp) gt H.row.length (ledP (nwW (mvL H F u)) (cmpH H).row (addK (covA (cmpH H) (OS.take y)) j 0)) H.roots H.mourned (toA H.row.length (mvL H F u))):=by show CS _ _ _ _ _ _ _ _ _ _ _ _ _ _ _ _ _ _ _ _ _;rw[addK_zero];exact hC
         clear hC hO hj hcn hsl hav hobj hris hjm x0
         obtain⟨w11,hw11⟩:∃w11,w11=wr:=⟨_,rfl⟩
         subst hw11
         go_wp2_with fail
         go_loopw [16] (fun v16 wr=>∃q:Nat,q≤cn∧v16 = .int .i64 (q:Int)∧CS w wr P base g1 g2 g3 cr co cm (.slice sa sn sc) H u (.slice va u.length vc) (.slice (some ⟨wb,0,none⟩) H.row.length wcp) gt H.row.length (ledP (nwW (mvL H F u)) (cmpH H).row (addK (covA (cmpH H) (OS.take y)) j q)) H.roots H.mourned (toA H.row.length (mvL H F u))∧rows.Own wr w9.heap.size (.slice (some ⟨ob,oo,none⟩) OS.length oc) OS) (fun v16 _=>cn-(intOf v16).toNat)
         case atStart=>exact⟨0,Nat.zero_le _,rfl,HK0.out,HO.out⟩
         case round=>
          obtain⟨q,hq,rfl,hC6,hO6⟩:=hrel
          clear HK0
          have HC6:Hid _:=hC6
          have HO6:Hid _:=hO6
          have x6:=list_cell hO6 hlt
          rw[HJ0.out]at x6
          have HXJ:Hid ((ledP (nwW (mvL H F u)) (cmpH H).row (addK (covA (cmpH H) (OS.take y)) j q)).getD j 0=(cmpH H).row.getD j 0):=by
           have ek:addK (covA (cmpH H) (OS.take y)) j q j=false:=by
            unfold addK
            rw[HLA.out j (Nat.le_refl _),decide_eq_false (show ¬j+1≤j by omega)]
            rfl
           show _=_
           rw[ledP_get (by rw[HXL.out];exact hjl),if_neg (by rw[ek];decide)]
          obtain⟨⟨z0,z1,z2,z3,z4⟩,⟨z5,z6,z7,z8⟩⟩:=nine_grow hC6.ss.nine
          have Y0:=cell_grow x6
          have HL4:Hid (∀x:Ext wr.heap.size wr,Calls Tryz.prog 46 #[.slice (some ⟨g1,0,none⟩) H.row.length cr,.int .i64 (j:Int)] x.to fun e w''=>e = .returned (hv (uS ((cmpH H).row.getD j 0)) (uF ((cmpH H).row.getD j 0)) (uC ((cmpH H).row.getD j 0)) (uH ((cmpH H).row.getD j 0)) (uP ((cmpH H).row.getD j 0)) (uM ((cmpH H).row.getD j 0)))∧∃y:Ext wr.heap.size wr,w''=y.to):=fun x=>by
           have S':=(HC6.out.below x.below).ss
           have L':=l4Head_any (show IntsAt x.to _ _ from S'.hp.1) j (by rw[S'.lr];exact hjl)
           rw[S'.lr]at L'
           unfold hw at L'
           rw[HXJ.out]at L'
           exact calls_grow (Nat.le_refl _) L'
          have HLC:Hid (∀x:Ext wr.heap.size wr,Calls Tryz.prog 56 #[hv (uS ((cmpH H).row.getD j 0)) (uF ((cmpH H).row.getD j 0)) (uC ((cmpH H).row.getD j 0)) (uH ((cmpH H).row.getD j 0)) (uP ((cmpH H).row.getD j 0)) (uM ((cmpH H).row.getD j 0))] x.to fun e w''=>e = .returned (.int .i64 (cn:Int))∧∃y:Ext wr.heap.size wr,w''=y.to):=fun x=>by
           have L':=l4Count_any (uS ((cmpH H).row.getD j 0)) (uF ((cmpH H).row.getD j 0)) (uC ((cmpH H).row.getD j 0)) (uH ((cmpH H).row.getD j 0)) (uP ((cmpH H).row.getD j 0)) (uM ((cmpH H).row.getD j 0)) x.to
           have ec:=HCN.out
           unfold cnS at ec
           rw[ec]at L'
           exact calls_grow (Nat.le_refl _) (L'.mono (fun e w' ⟨he,hw⟩=>⟨he,by rw[hw];exact (Below.refl _ _).alloc (Nat.le_refl _) _⟩))
          clear hC6 hO6
          generalize uF ((cmpH H).row.getD j 0)=f at *
          generalize uS ((cmpH H).row.getD j 0)=s at *
          generalize uC ((cmpH H).row.getD j 0)=c at *
          generalize uH ((cmpH H).row.getD j 0)=g at *
          generalize uP ((cmpH H).row.getD j 0)=p at *
          generalize uM ((cmpH H).row.getD j 0)=m0 at *
          go_upto_region 37 with fail
          haveI:=ext_any wr
          refine region_grow (n:=wr.heap.size) (by kernel_rfl) (by kernel_rfl) ?_
          repeat (go_big_quiet_step (first|(go_at_call 46;exact HL4.out _)|(go_at_call 56;exact HLC.out _)))
          refine wpQuiet_nil ?_
          intro _ hw'
          obtain⟨E,rfl⟩:=hw'
          have HCz:Hid _:=HC6.out.below E.below
          have HOz:Hid _:=own_below HO6.out E.below
          clear z0 z1 z2 z3 z4 z5 z6 z7 z8 Y0 HL4 HLC x6 HC6 HO6
          generalize E.to=W6 at *
          clear E this
          have x0z:=list_cell HOz.out hlt
          rw[HJ0.out]at x0z
          have hobz:ob<W6.heap.size:=World.block_lt_of_cell? _ _ x0z
          by_cases hql:q<cn
          ·have hql':(q:Int)<(cn:Int):=by omega
           have hjq:(j:Int)+1+(q:Int)<(H.row.length:Int):=by omega
           obtain⟨x,hx⟩:∃x,(cmpH H).row.getD (j+1+q) 0=x:=⟨_,rfl⟩
           obtain⟨x2,hx2⟩:∃x2,nwW (mvL H F u) x=x2:=⟨_,rfl⟩
           have HRL:Hid ((ledP (nwW (mvL H F u)) (cmpH H).row (addK (covA (cmpH H) (OS.take y)) j q)).length=H.row.length):=by show _=_;rw[ledP_len];exact HXL.out
           have HXQ:Hid ((ledP (nwW (mvL H F u)) (cmpH H).row (addK (covA (cmpH H) (OS.take y)) j q)).getD (j+1+q) 0=x):=by
            show _=_
            rw[ledP_get (by rw[HXL.out];omega),if_neg,hx]
            unfold addK
            rw[HLA.out (j+1+q) (by omega)]
            simp
           have HSE6:Hid ((ledP (nwW (mvL H F u)) (cmpH H).row (addK (covA (cmpH H) (OS.take y)) j q)).set (j+1+q) x2=ledP (nwW (mvL H F u)) (cmpH H).row (addK (covA (cmpH H) (OS.take y)) j (q+1))):=by
            show _=_
            rw[addK_next,←ledP_set (by rw[HXL.out];omega),hx,hx2]
           have HWD:Hid (∀W,Below W6.heap.size W6 W→Calls Tryz.prog 57 #[.slice (some ⟨gt,0,none⟩) H.row.length H.row.length,.int .i64 x] W fun e w'=>e = .returned (.int .i64 x2)∧w'=W):=fun W hW=>by
            rw[←hx2]
            have q1:=(HCz.out.below hW).toInts
            rw[toA_len]at q1
            exact HWDA.out W x q1 (by rw[←hx];exact HAV.out q hql)
           clear hx hx2
           go_upto_region 39 with fail
           generalize hA0:(Act.mk _ [])=A0
           have e0:A0.tmps.getD 0 undef = .pointer (some ⟨P,0,none⟩):=by rw[←hA0];rfl
           have e6:A0.tmps.getD 6 undef = .slice (some ⟨gt,0,none⟩) H.row.length H.row.length:=by rw[←hA0];rfl
           have e14:A0.tmps.getD 14 undef = .slice (some ⟨ob,oo,none⟩) OS.length oc:=by rw[←hA0];rfl
           have e15:A0.tmps.getD 15 undef = .int .i64 (y:Int):=by rw[←hA0];rfl
           have e16:A0.tmps.getD 16 undef = .int .i64 (q:Int):=by rw[←hA0];rfl
           have sz:A0.tmps.size=287:=by rw[←hA0];rfl
           refine wp_region_last (by kernel_rfl) DCm39 (by simp) ?_ 27 rfl dCm39 dCm39_inj (FCm39 H OS P g1 cr ob oo oc y j q gt x x2) ?_ ?_ ?_ ?_
           ·intro k o ho
            have hk:k<28:=(Array.getElem?_eq_some_iff.1 ho).1
            rcases (show k=0∨k=1∨k=2∨k=3∨k=4∨k=5∨k=6∨k=7∨k=8∨k=9∨k=10∨k=11∨k=12∨k=13∨k=14∨k=15∨k=16∨k=17∨k=18∨k=19∨k=20∨k=21∨k=22∨k=23∨k=24∨k=25∨k=26∨k=27 by omega) with rfl|rfl|rfl|rfl|rfl|rfl|rfl|rfl|rfl|rfl|rfl|rfl|rfl|rfl|rfl|rfl|rfl|rfl|rfl|rfl|rfl|rfl|rfl|rfl|rfl|rfl|rfl|rfl<;>(obtain rfl:=Option.some.inj ho;simp)
           ·intro k t W W' hb h
            match k,h with
            |0,h=>exact h
            |1,h=>exact h
            |2,h=>exact h
            |3,h=>exact h
            |4,h=>exact h
            |5,h=>exact h
            |6,h=>exact h
            |7,h=>exact h
            |8,h=>exact h
            |9,h=>exact h
            |10,h=>exact h
            |11,h=>exact h
            |12,h=>exact h
            |13,h=>exact h
            |14,h=>exact h
            |15,h=>exact h
            |16,h=>exact h
            |17,h=>exact h
            |18,h=>exact h
            |19,h=>exact h
            |20,h=>exact h
            |21,h=>exact h
            |22,h=>exact h
            |23,h=>exact h
            |24,h=>exact h
            |25,h=>exact h
            |26,h=>exact h
            |_+27,h=>exact h.elim
           ·intro l hC kk hkk
            have CL:=hC 27 _ rfl (fun h=>by omega)
            have l25:l 25=true:=CL ⟨25,.data⟩ (by simp) (by simp[Region.binds])
            have l26:l 26=true:=CL ⟨26,.data⟩ (by simp) (by simp[Region.binds])
            have l11:l 11=true:=hC 25 _ rfl (fun _=>l25) ⟨11,.data⟩ (by simp) (by simp[Region.binds])
            have l24:l 24=true:=hC 25 _ rfl (fun _=>l25) ⟨24,.data⟩ (by simp) (by simp[Region.binds])
            have l23:l 23=true:=hC 24 _ rfl (fun _=>l24) ⟨23,.data⟩ (by simp) (by simp[Region.binds])
            have l15:l 15=true:=hC 23 _ rfl (fun _=>l23) ⟨15,.data⟩ (by simp) (by simp[Region.binds])
            have l22:l 22=true:=hC 23 _ rfl (fun _=>l23) ⟨22,.data⟩ (by simp) (by simp[Region.binds])
            have l20:l 20=true:=hC 22 _ rfl (fun _=>l22) ⟨20,.data⟩ (by simp) (by simp[Region.binds])
            have l21:l 21=true:=hC 22 _ rfl (fun _=>l22) ⟨21,.data⟩ (by simp) (by simp[Region.binds])
            have l19:l 19=true:=hC 20 _ rfl (fun _=>l20) ⟨19,.data⟩ (by simp) (by simp[Region.binds])
            have l18:l 18=true:=hC 19 _ rfl (fun _=>l19) ⟨18,.data⟩ (by simp) (by simp[Region.binds])
            have l16:l 16=true:=hC 18 _ rfl (fun _=>l18) ⟨16,.data⟩ (by simp) (by simp[Region.binds])
            have l17:l 17=true:=hC 18 _ rfl (fun _=>l18) ⟨17,.data⟩ (by simp) (by simp[Region.binds])
            have l14:l 14=true:=hC 15 _ rfl (fun _=>l15) ⟨14,.data⟩ (by simp) (by simp[Region.binds])
            have l13:l 13=true:=hC 14 _ rfl (fun _=>l14) ⟨13,.data⟩ (by simp) (by simp[Region.binds])
            have l12:l 12=true:=hC 13 _ rfl (fun _=>l13) ⟨12,.data⟩ (by simp) (by simp[Region.binds])
            have l3:l 3=true:=hC 26 _ rfl (fun _=>l26) ⟨3,.data⟩ (by simp) (by simp[Region.binds])
            have l10:l 10=true:=hC 26 _ rfl (fun _=>l26) ⟨10,.data⟩ (by simp) (by simp[Region.binds])
            have l2:l 2=true:=hC 3 _ rfl (fun _=>l3) ⟨2,.data⟩ (by simp) (by simp[Region.binds])
            have l1:l 1=true:=hC 2 _ rfl (fun _=>l2) ⟨1,.data⟩ (by simp) (by simp[Region.binds])
            have l0:l 0=true:=hC 1 _ rfl (fun _=>l1) ⟨0,.data⟩ (by simp) (by simp[Region.binds])
            have l8:l 8=true:=hC 10 _ rfl (fun _=>l10) ⟨8,.data⟩ (by simp) (by simp[Region.binds])
            have l9:l 9=true:=hC 10 _ rfl (fun _=>l10) ⟨9,.data⟩ (by simp) (by simp[Region.binds])
            have l7:l 7=true:=hC 8 _ rfl (fun _=>l8) ⟨7,.data⟩ (by simp) (by simp[Region.binds])
            have l6:l 6=true:=hC 7 _ rfl (fun _=>l7) ⟨6,.data⟩ (by simp) (by simp[Region.binds])
            have l4:l 4=true:=hC 6 _ rfl (fun _=>l6) ⟨4,.data⟩ (by simp) (by simp[Region.binds])
            have l5:l 5=true:=hC 6 _ rfl (fun _=>l6) ⟨5,.data⟩ (by simp) (by simp[Region.binds])
            rcases (show kk=0∨kk=1∨kk=2∨kk=3∨kk=4∨kk=5∨kk=6∨kk=7∨kk=8∨kk=9∨kk=10∨kk=11∨kk=12∨kk=13∨kk=14∨kk=15∨kk=16∨kk=17∨kk=18∨kk=19∨kk=20∨kk=21∨kk=22∨kk=23∨kk=24∨kk=25∨kk=26 by omega) with rfl|rfl|rfl|rfl|rfl|rfl|rfl|rfl|rfl|rfl|rfl|rfl|rfl|rfl|rfl|rfl|rfl|rfl|rfl|rfl|rfl|rfl|rfl|rfl|rfl|rfl|rfl
            ·exact l0
            ·exact l1
            ·exact l2
            ·exact l3
            ·exact l4
            ·exact l5
            ·exact l6
            ·exact l7
            ·exact l8
            ·exact l9
            ·exact l10
            ·exact l11
            ·exact l12
            ·exact l13
            ·exact l14
            ·exact l15
            ·exact l16
            ·exact l17
            ·exact l18
            ·exact l19
            ·exact l20
            ·exact l21
            ·exact l22
            ·exact l23
            ·exact l24
            ·exact l25
            ·exact l26
           ·intro k o uq W hk ho hB hF
            have ev:∀s,DCm39 s=true→s<287→(ovr DCm39 A0 uq).tmps[s]?.getD undef=uq s:=fun s h1 h2=>(getD_at _ _).symm.trans (eval_in h1 (by omega))
            have o0:(ovr DCm39 A0 uq).tmps[0]?.getD undef=_:=(getD_at _ _).symm.trans ((eval_out (D:=DCm39) (a0:=A0) (u:=uq) (s:=0) rfl (by omega)).trans e0)
            have o6:(ovr DCm39 A0 uq).tmps[6]?.getD undef=_:=(getD_at _ _).symm.trans ((eval_out (D:=DCm39) (a0:=A0) (u:=uq) (s:=6) rfl (by omega)).trans e6)
            have o14:(ovr DCm39 A0 uq).tmps[14]?.getD undef=_:=(getD_at _ _).symm.trans ((eval_out (D:=DCm39) (a0:=A0) (u:=uq) (s:=14) rfl (by omega)).trans e14)
            have o15:(ovr DCm39 A0 uq).tmps[15]?.getD undef=_:=(getD_at _ _).symm.trans ((eval_out (D:=DCm39) (a0:=A0) (u:=uq) (s:=15) rfl (by omega)).trans e15)
            have o16:(ovr DCm39 A0 uq).tmps[16]?.getD undef=_:=(getD_at _ _).symm.trans ((eval_out (D:=DCm39) (a0:=A0) (u:=uq) (s:=16) rfl (by omega)).trans e16)
            have SW:=HCz.out.below hB
            obtain⟨⟨_,_,z2,_,_⟩,_,_⟩:=nine_cells SW.ss.nine
            have xl:=(hB.cell (p:=⟨ob,oo+y,none⟩) hobz).trans x0z
            obtain⟨xw,xf⟩:=SW.ss.rowCell (q:=j+1+q) (by rw[HRL.out];omega)
            rw[HXQ.out]at xw
            clear SW
            rcases (show k=0∨k=1∨k=2∨k=3∨k=4∨k=5∨k=6∨k=7∨k=8∨k=9∨k=10∨k=11∨k=12∨k=13∨k=14∨k=15∨k=16∨k=17∨k=18∨k=19∨k=20∨k=21∨k=22∨k=23∨k=24∨k=25∨k=26 by omega) with rfl|rfl|rfl|rfl|rfl|rfl|rfl|rfl|rfl|rfl|rfl|rfl|rfl|rfl|rfl|rfl|rfl|rfl|rfl|rfl|rfl|rfl|rfl|rfl|rfl|rfl|rfl
            all_goals obtain rfl:=Option.some.inj ho
            ·refine plainV (v:=.pointer (some ⟨P,0,none⟩)) rfl rfl ?_ rfl
             simp only[execOp]
             go_simp
             try go_num
             try (rw[IntKind.wrap_i64];omega)
            ·have x0:=(ev 210 rfl (by decide)).trans (hF 0 (by decide) (by simp[Region.binds]))
             refine plainV (v:=.pointer (some ⟨P,0,none⟩)) rfl rfl ?_ rfl
             simp only[execOp]
             go_simp
             try go_num
             try (rw[IntKind.wrap_i64];omega)
            ·have x1:=(ev 211 rfl (by decide)).trans (hF 1 (by decide) (by simp[Region.binds]))
             refine plainV (v:=.pointer (some ⟨P,2,none⟩)) rfl rfl ?_ rfl
             simp only[execOp]
             go_simp
             try go_num
             try (rw[IntKind.wrap_i64];omega)
            ·have x2:=(ev 212 rfl (by decide)).trans (hF 2 (by decide) (by simp[Region.binds]))
             refine plainV (v:=.slice (some ⟨g1,0,none⟩) H.row.length cr) rfl rfl ?_ rfl
             simp only[execOp]
             go_simp
             try go_num
             try (rw[IntKind.wrap_i64];omega)
            ·refine plainV (v:=.slice (some ⟨ob,oo,none⟩) OS.length oc) rfl rfl ?_ rfl
             simp only[execOp]
             go_simp
             try go_num
             try (rw[IntKind.wrap_i64];omega)
            ·refine plainV (v:=.int .i64 (y:Int)) rfl rfl ?_ rfl
             simp only[execOp]
             go_simp
             try go_num
             try (rw[IntKind.wrap_i64];omega)
            ·have x4:=(ev 214 rfl (by decide)).trans (hF 4 (by decide) (by simp[Region.binds]))
             have x5:=(ev 215 rfl (by decide)).trans (hF 5 (by decide) (by simp[Region.binds]))
             refine plainV (v:=.pointer (some ⟨ob,oo+y,none⟩)) rfl rfl ?_ rfl
             simp only[execOp]
             go_simp
             try go_num
             try (rw[IntKind.wrap_i64];omega)
            ·have x6:=(ev 216 rfl (by decide)).trans (hF 6 (by decide) (by simp[Region.binds]))
             refine plainV (v:=.int .i64 (j:Int)) rfl rfl ?_ rfl
             simp only[execOp]
             go_simp
             try go_num
             try (rw[IntKind.wrap_i64];omega)
            ·have x7:=(ev 217 rfl (by decide)).trans (hF 7 (by decide) (by simp[Region.binds]))
             refine plainV (v:=.int .i64 ((j+1:Nat):Int)) rfl rfl ?_ rfl
             simp only[execOp]
             go_simp
             try go_num
             try (rw[IntKind.wrap_i64];omega)
            ·refine plainV (v:=.int .i64 (q:Int)) rfl rfl ?_ rfl
             simp only[execOp]
             go_simp
             try go_num
             try (rw[IntKind.wrap_i64];omega)
            ·have x8:=(ev 218 rfl (by decide)).trans (hF 8 (by decide) (by simp[Region.binds]))
             have x9:=(ev 219 rfl (by decide)).trans (hF 9 (by decide) (by simp[Region.binds]))
             refine plainV (v:=.int .i64 ((j+1+q:Nat):Int)) rfl rfl ?_ rfl
             simp only[execOp]
             go_simp
             try go_num
             try (rw[IntKind.wrap_i64];omega)
            ·refine plainV (v:=.slice (some ⟨gt,0,none⟩) H.row.length H.row.length) rfl rfl ?_ rfl
             simp only[execOp]
             go_simp
             try go_num
             try (rw[IntKind.wrap_i64];omega)
            ·refine plainV (v:=.pointer (some ⟨P,0,none⟩)) rfl rfl ?_ rfl
             simp only[execOp]
             go_simp
             try go_num
             try (rw[IntKind.wrap_i64];omega)
            ·have x12:=(ev 222 rfl (by decide)).trans (hF 12 (by decide) (by simp[Region.binds]))
             refine plainV (v:=.pointer (some ⟨P,0,none⟩)) rfl rfl ?_ rfl
             simp only[execOp]
             go_simp
             try go_num
             try (rw[IntKind.wrap_i64];omega)
            ·have x13:=(ev 223 rfl (by decide)).trans (hF 13 (by decide) (by simp[Region.binds]))
             refine plainV (v:=.pointer (some ⟨P,2,none⟩)) rfl rfl ?_ rfl
             simp only[execOp]
             go_simp
             try go_num
             try (rw[IntKind.wrap_i64];omega)
            ·have x14:=(ev 224 rfl (by decide)).trans (hF 14 (by decide) (by simp[Region.binds]))
             refine plainV (v:=.slice (some ⟨g1,0,none⟩) H.row.length cr) rfl rfl ?_ rfl
             simp only[execOp]
             go_simp
             try go_num
             try (rw[IntKind.wrap_i64];omega)
            ·refine plainV (v:=.slice (some ⟨ob,oo,none⟩) OS.length oc) rfl rfl ?_ rfl
             simp only[execOp]
             go_simp
             try go_num
             try (rw[IntKind.wrap_i64];omega)
            ·refine plainV (v:=.int .i64 (y:Int)) rfl rfl ?_ rfl
             simp only[execOp]
             go_simp
             try go_num
             try (rw[IntKind.wrap_i64];omega)
            ·have x16:=(ev 226 rfl (by decide)).trans (hF 16 (by decide) (by simp[Region.binds]))
             have x17:=(ev 227 rfl (by decide)).trans (hF 17 (by decide) (by simp[Region.binds]))
             refine plainV (v:=.pointer (some ⟨ob,oo+y,none⟩)) rfl rfl ?_ rfl
             simp only[execOp]
             go_simp
             try go_num
             try (rw[IntKind.wrap_i64];omega)
            ·have x18:=(ev 228 rfl (by decide)).trans (hF 18 (by decide) (by simp[Region.binds]))
             refine plainV (v:=.int .i64 (j:Int)) rfl rfl ?_ rfl
             simp only[execOp]
             go_simp
             try go_num
             try (rw[IntKind.wrap_i64];omega)
            ·have x19:=(ev 229 rfl (by decide)).trans (hF 19 (by decide) (by simp[Region.binds]))
             refine plainV (v:=.int .i64 ((j+1:Nat):Int)) rfl rfl ?_ rfl
             simp only[execOp]
             go_simp
             try go_num
             try (rw[IntKind.wrap_i64];omega)
            ·refine plainV (v:=.int .i64 (q:Int)) rfl rfl ?_ rfl
             simp only[execOp]
             go_simp
             try go_num
             try (rw[IntKind.wrap_i64];omega)
            ·have x20:=(ev 230 rfl (by decide)).trans (hF 20 (by decide) (by simp[Region.binds]))
             have x21:=(ev 231 rfl (by decide)).trans (hF 21 (by decide) (by simp[Region.binds]))
             refine plainV (v:=.int .i64 ((j+1+q:Nat):Int)) rfl rfl ?_ rfl
             simp only[execOp]
             go_simp
             try go_num
             try (rw[IntKind.wrap_i64];omega)
            ·have x15:=(ev 225 rfl (by decide)).trans (hF 15 (by decide) (by simp[Region.binds]))
             have x22:=(ev 232 rfl (by decide)).trans (hF 22 (by decide) (by simp[Region.binds]))
             refine plainV (v:=.pointer (some ⟨g1,j+1+q,none⟩)) rfl rfl ?_ rfl
             simp only[execOp]
             go_simp
             try go_num
             try (rw[IntKind.wrap_i64];omega)
            ·have x23:=(ev 233 rfl (by decide)).trans (hF 23 (by decide) (by simp[Region.binds]))
             refine plainV (v:=.int .i64 x) rfl rfl ?_ rfl
             simp only[execOp]
             go_simp
             try go_num
             try (rw[IntKind.wrap_i64];omega)
            ·have x11:=(ev 221 rfl (by decide)).trans (hF 11 (by decide) (by simp[Region.binds]))
             have x24:=(ev 234 rfl (by decide)).trans (hF 24 (by decide) (by simp[Region.binds]))
             refine plainC (f:=57) (args:=#[.slice (some ⟨gt,0,none⟩) H.row.length H.row.length,.int .i64 x]) rfl rfl ?_ ((HWD.out W hB).mono ?_)
             ·simp only[execOp]
              go_simp
             ·rintro e w' ⟨rfl,rfl⟩
              exact⟨_,rfl,Below.refl _ _,rfl⟩
            ·have x3:=(ev 213 rfl (by decide)).trans (hF 3 (by decide) (by simp[Region.binds]))
             have x10:=(ev 220 rfl (by decide)).trans (hF 10 (by decide) (by simp[Region.binds]))
             refine plainV (v:=.pointer (some ⟨g1,j+1+q,none⟩)) rfl rfl ?_ rfl
             simp only[execOp]
             go_simp
             try go_num
             try (rw[IntKind.wrap_i64];omega)
           ·intro o uq W ho hB hF
            obtain rfl:=Option.some.inj ho
            have ev:∀s,DCm39 s=true→s<287→(ovr DCm39 A0 uq).tmps[s]?.getD undef=uq s:=fun s h1 h2=>(getD_at _ _).symm.trans (eval_in h1 (by omega))
            have o0:(ovr DCm39 A0 uq).tmps[0]?.getD undef=_:=(getD_at _ _).symm.trans ((eval_out (D:=DCm39) (a0:=A0) (u:=uq) (s:=0) rfl (by omega)).trans e0)
            have o6:(ovr DCm39 A0 uq).tmps[6]?.getD undef=_:=(getD_at _ _).symm.trans ((eval_out (D:=DCm39) (a0:=A0) (u:=uq) (s:=6) rfl (by omega)).trans e6)
            have o14:(ovr DCm39 A0 uq).tmps[14]?.getD undef=_:=(getD_at _ _).symm.trans ((eval_out (D:=DCm39) (a0:=A0) (u:=uq) (s:=14) rfl (by omega)).trans e14)
            have o15:(ovr DCm39 A0 uq).tmps[15]?.getD undef=_:=(getD_at _ _).symm.trans ((eval_out (D:=DCm39) (a0:=A0) (u:=uq) (s:=15) rfl (by omega)).trans e15)
            have o16:(ovr DCm39 A0 uq).tmps[16]?.getD undef=_:=(getD_at _ _).symm.trans ((eval_out (D:=DCm39) (a0:=A0) (u:=uq) (s:=16) rfl (by omega)).trans e16)
            have SW:=HCz.out.below hB
            obtain⟨⟨_,_,z2,_,_⟩,_,_⟩:=nine_cells SW.ss.nine
            have xl:=(hB.cell (p:=⟨ob,oo+y,none⟩) hobz).trans x0z
            obtain⟨xw,xf⟩:=SW.ss.rowCell (q:=j+1+q) (by rw[HRL.out];omega)
            rw[HXQ.out]at xw
            clear SW
            have x25:=(ev 235 rfl (by decide)).trans (hF 25 (by decide))
            have x26:=(ev 236 rfl (by decide)).trans (hF 26 (by decide))
            refine plainS (W':=W.setCell ⟨g1,j+1+q,none⟩ (.int .i64 x2)) rfl ?_ ?_
            ·simp only[execOp]
             go_simp
            have HSW:Hid _:=(HCz.out.below hB).setRow HDS.out (j+1+q) x2
            have HOW:Hid _:=row_ch (own_below HOz.out hB) (one_ch W g1 (j+1+q) (.int .i64 x2)) (fun k hk e=>by have:=(blk_lt HOz.out k hk).1;have e2:k=g1:=(by simpa using e);omega)
            clear xl xw xf z2 hF x25 x26 ev o0 o6 o14 o15 o16 e0 e6 e14 e15 e16 sz
            subst hA0
            simp[ovr,DCm39,List.range,List.range.loop]
            go_wp2
            exact⟨⟨q+1,by omega,by go_num,by rw[←HSE6.out];exact HSW.out,HOW.out⟩,by simp[intOf];omega⟩
          ·have hql':¬(q:Int)<(cn:Int):=by omega
           have e:q=cn:=by omega
           subst e
           rw[HNX.out]at HCz
           go_wp2
           exact⟨⟨y+1,by omega,by go_num,HCz.out,HOz.out⟩,by simp[intOf];omega⟩
        ·have hlt':¬(y:Int)<(OS.length:Int):=by omega
         have e:y=OS.length:=by omega
         subst e
         rw[List.take_length]at HC
         have ERC:ledP (nwW (mvL H F u)) (cmpH H).row (covA (cmpH H) OS)=(cmpC H).row:=by
          show _=ledP (nwW (cmpG H)) (cmpH H).row (covA (cmpH H) (cmpO H))
          rw[HGG.out,←HOE.out]
         rw[ERC]at HC
         clear hC hO HO ERC HPO HAP1 HRI1
         have HC7:Hid (CS w wr P base g1 g2 g3 cr co cm (.slice sa sn sc) H u (.slice va u.length vc) (.slice (some ⟨wb,0,none⟩) H.row.length wcp) gt H.row.length (cmpC H).row (mapK (nwW (mvL H F u)) H.roots 0) H.mourned (toA H.row.length (mvL H F u))):=by show CS _ _ _ _ _ _ _ _ _ _ _ _ _ _ _ _ _ _ _ _ _;rw[mapK_zero];exact HC.out
         clear HC
         go_wp2_with fail
         go_loopw [17] (fun v17 wr=>∃y:Nat,y≤6∧v17 = .int .i64 (y:Int)∧CS w wr P base g1 g2 g3 cr co cm (.slice sa sn sc) H u (.slice va u.length vc) (.slice (some ⟨wb,0,none⟩) H.row.length wcp) gt H.row.length (cmpC H).row (mapK (nwW (mvL H F u)) H.roots y) H.mourned (toA H.row.length (mvL H F u))) (fun v17 _=>6-(intOf v17).toNat)
         case atStart=>exact⟨0,by omega,rfl,HC7.out⟩
         case round=>
          obtain⟨y,hy,rfl,hC⟩:=hrel
          clear HC7
          have HCz:Hid _:=hC
          by_cases hlt:y<6
          ·have hlt':(y:Int)<6:=by omega
           have hyr:y<H.roots.length:=by rw[HR6.out];exact hlt
           have hyr':(y:Int)<(H.roots.length:Int):=by omega
           obtain⟨x,hx⟩:∃x,H.roots.getD y 0=x:=⟨_,rfl⟩
           obtain⟨x2,hx2⟩:∃x2,nwW (mvL H F u) x=x2:=⟨_,rfl⟩
           have HRL:Hid ((mapK (nwW (mvL H F u)) H.roots y).length=H.roots.length):=mapK_len _ _ (by omega)
           have HXQ:Hid ((mapK (nwW (mvL H F u)) H.roots y).getD y 0=x):=by show _=_;rw[mapK_get _ _ hyr,hx]
           have HSE6:Hid ((mapK (nwW (mvL H F u)) H.roots y).set y x2=mapK (nwW (mvL H F u)) H.roots (y+1)):=by show _=_;rw[←mapK_set _ _ hyr,hx,hx2]
           have HWD:Hid (∀W,Below wr.heap.size wr W→Calls Tryz.prog 57 #[.slice (some ⟨gt,0,none⟩) H.row.length H.row.length,.int .i64 x] W fun e w'=>e = .returned (.int .i64 x2)∧w'=W):=fun W hW=>by
            rw[←hx2]
            have q1:=(HCz.out.below hW).toInts
            rw[toA_len]at q1
            exact HWDA.out W x q1 (HRIN.out x (by rw[←hx,List.getD_eq_getElem?_getD,List.getElem?_eq_getElem hyr];exact List.mem_append_left _ (List.getElem_mem hyr)))
           clear hx hx2 hC
           go_upto_region 43 with fail
           generalize hA0:(Act.mk _ [])=A0
           have e0:A0.tmps.getD 0 undef = .pointer (some ⟨P,0,none⟩):=by rw[←hA0];rfl
           have e6:A0.tmps.getD 6 undef = .slice (some ⟨gt,0,none⟩) H.row.length H.row.length:=by rw[←hA0];rfl
           have e17:A0.tmps.getD 17 undef = .int .i64 (y:Int):=by rw[←hA0];rfl
           have sz:A0.tmps.size=287:=by rw[←hA0];rfl
           refine wp_region_last (by kernel_rfl) DCm43 (by simp) ?_ 15 rfl dCm43 dCm43_inj (FCm43 H P g2 co gt y x x2) ?_ ?_ ?_ ?_
           ·intro k o ho
            have hk:k<16:=(Array.getElem?_eq_some_iff.1 ho).1
            rcases (show k=0∨k=1∨k=2∨k=3∨k=4∨k=5∨k=6∨k=7∨k=8∨k=9∨k=10∨k=11∨k=12∨k=13∨k=14∨k=15 by omega) with rfl|rfl|rfl|rfl|rfl|rfl|rfl|rfl|rfl|rfl|rfl|rfl|rfl|rfl|rfl|rfl<;>(obtain rfl:=Option.some.inj ho;simp)
           ·intro k t W W' hb h
            match k,h with
            |0,h=>exact h
            |1,h=>exact h
            |2,h=>exact h
            |3,h=>exact h
            |4,h=>exact h
            |5,h=>exact h
            |6,h=>exact h
            |7,h=>exact h
            |8,h=>exact h
            |9,h=>exact h
            |10,h=>exact h
            |11,h=>exact h
            |12,h=>exact h
            |13,h=>exact h
            |14,h=>exact h
            |_+15,h=>exact h.elim
           ·intro l hC kk hkk
            have CL:=hC 15 _ rfl (fun h=>by omega)
            have l13:l 13=true:=CL ⟨13,.data⟩ (by simp) (by simp[Region.binds])
            have l14:l 14=true:=CL ⟨14,.data⟩ (by simp) (by simp[Region.binds])
            have l5:l 5=true:=hC 13 _ rfl (fun _=>l13) ⟨5,.data⟩ (by simp) (by simp[Region.binds])
            have l12:l 12=true:=hC 13 _ rfl (fun _=>l13) ⟨12,.data⟩ (by simp) (by simp[Region.binds])
            have l11:l 11=true:=hC 12 _ rfl (fun _=>l12) ⟨11,.data⟩ (by simp) (by simp[Region.binds])
            have l9:l 9=true:=hC 11 _ rfl (fun _=>l11) ⟨9,.data⟩ (by simp) (by simp[Region.binds])
            have l10:l 10=true:=hC 11 _ rfl (fun _=>l11) ⟨10,.data⟩ (by simp) (by simp[Region.binds])
            have l8:l 8=true:=hC 9 _ rfl (fun _=>l9) ⟨8,.data⟩ (by simp) (by simp[Region.binds])
            have l7:l 7=true:=hC 8 _ rfl (fun _=>l8) ⟨7,.data⟩ (by simp) (by simp[Region.binds])
            have l6:l 6=true:=hC 7 _ rfl (fun _=>l7) ⟨6,.data⟩ (by simp) (by simp[Region.binds])
            have l3:l 3=true:=hC 14 _ rfl (fun _=>l14) ⟨3,.data⟩ (by simp) (by simp[Region.binds])
            have l4:l 4=true:=hC 14 _ rfl (fun _=>l14) ⟨4,.data⟩ (by simp) (by simp[Region.binds])
            have l2:l 2=true:=hC 3 _ rfl (fun _=>l3) ⟨2,.data⟩ (by simp) (by simp[Region.binds])
            have l1:l 1=true:=hC 2 _ rfl (fun _=>l2) ⟨1,.data⟩ (by simp) (by simp[Region.binds])
            have l0:l 0=true:=hC 1 _ rfl (fun _=>l1) ⟨0,.data⟩ (by simp) (by simp[Region.binds])
            rcases (show kk=0∨kk=1∨kk=2∨kk=3∨kk=4∨kk=5∨kk=6∨kk=7∨kk=8∨kk=9∨kk=10∨kk=11∨kk=12∨kk=13∨kk=14 by omega) with rfl|rfl|rfl|rfl|rfl|rfl|rfl|rfl|rfl|rfl|rfl|rfl|rfl|rfl|rfl
            ·exact l0
            ·exact l1
            ·exact l2
            ·exact l3
            ·exact l4
            ·exact l5
            ·exact l6
            ·exact l7
            ·exact l8
            ·exact l9
            ·exact l10
            ·exact l11
            ·exact l12
            ·exact l13
            ·exact l14
           ·intro k o uq W hk ho hB hF
            have ev:∀s,DCm43 s=true→s<287→(ovr DCm43 A0 uq).tmps[s]?.getD undef=uq s:=fun s h1 h2=>(getD_at _ _).symm.trans (eval_in h1 (by omega))
            have o0:(ovr DCm43 A0 uq).tmps[0]?.getD undef=_:=(getD_at _ _).symm.trans ((eval_out (D:=DCm43) (a0:=A0) (u:=uq) (s:=0) rfl (by omega)).trans e0)
            have o6:(ovr DCm43 A0 uq).tmps[6]?.getD undef=_:=(getD_at _ _).symm.trans ((eval_out (D:=DCm43) (a0:=A0) (u:=uq) (s:=6) rfl (by omega)).trans e6)
            have o17:(ovr DCm43 A0 uq).tmps[17]?.getD undef=_:=(getD_at _ _).symm.trans ((eval_out (D:=DCm43) (a0:=A0) (u:=uq) (s:=17) rfl (by omega)).trans e17)
            have SW:=HCz.out.below hB
            obtain⟨⟨_,_,_,_,_⟩,⟨z5,z6,_,_⟩,_⟩:=nine_cells SW.ss.nine
            obtain⟨xw,xf⟩:=SW.ss.rootCell (q:=y) (by rw[HRL.out];omega)
            rw[HXQ.out]at xw
            clear SW
            rcases (show k=0∨k=1∨k=2∨k=3∨k=4∨k=5∨k=6∨k=7∨k=8∨k=9∨k=10∨k=11∨k=12∨k=13∨k=14 by omega) with rfl|rfl|rfl|rfl|rfl|rfl|rfl|rfl|rfl|rfl|rfl|rfl|rfl|rfl|rfl
            all_goals obtain rfl:=Option.some.inj ho
            ·refine plainV (v:=.pointer (some ⟨P,0,none⟩)) rfl rfl ?_ rfl
             simp only[execOp]
             go_simp
             try go_num
             try (rw[IntKind.wrap_i64];omega)
            ·have x0:=(ev 241 rfl (by decide)).trans (hF 0 (by decide) (by simp[Region.binds]))
             refine plainV (v:=.pointer (some ⟨P,0,none⟩)) rfl rfl ?_ rfl
             simp only[execOp]
             go_simp
             try go_num
             try (rw[IntKind.wrap_i64];omega)
            ·have x1:=(ev 242 rfl (by decide)).trans (hF 1 (by decide) (by simp[Region.binds]))
             refine plainV (v:=.pointer (some ⟨P,5,none⟩)) rfl rfl ?_ rfl
             simp only[execOp]
             go_simp
             try go_num
             try (rw[IntKind.wrap_i64];omega)
            ·have x2:=(ev 243 rfl (by decide)).trans (hF 2 (by decide) (by simp[Region.binds]))
             refine plainV (v:=.slice (some ⟨g2,0,none⟩) H.roots.length co) rfl rfl ?_ rfl
             simp only[execOp]
             go_simp
             try go_num
             try (rw[IntKind.wrap_i64];omega)
            ·refine plainV (v:=.int .i64 (y:Int)) rfl rfl ?_ rfl
             simp only[execOp]
             go_simp
             try go_num
             try (rw[IntKind.wrap_i64];omega)
            ·refine plainV (v:=.slice (some ⟨gt,0,none⟩) H.row.length H.row.length) rfl rfl ?_ rfl
             simp only[execOp]
             go_simp
             try go_num
             try (rw[IntKind.wrap_i64];omega)
            ·refine plainV (v:=.pointer (some ⟨P,0,none⟩)) rfl rfl ?_ rfl
             simp only[execOp]
             go_simp
             try go_num
             try (rw[IntKind.wrap_i64];omega)
            ·have x6:=(ev 247 rfl (by decide)).trans (hF 6 (by decide) (by simp[Region.binds]))
             refine plainV (v:=.pointer (some ⟨P,0,none⟩)) rfl rfl ?_ rfl
             simp only[execOp]
             go_simp
             try go_num
             try (rw[IntKind.wrap_i64];omega)
            ·have x7:=(ev 248 rfl (by decide)).trans (hF 7 (by decide) (by simp[Region.binds]))
             refine plainV (v:=.pointer (some ⟨P,5,none⟩)) rfl rfl ?_ rfl
             simp only[execOp]
             go_simp
             try go_num
             try (rw[IntKind.wrap_i64];omega)
            ·have x8:=(ev 249 rfl (by decide)).trans (hF 8 (by decide) (by simp[Region.binds]))
             refine plainV (v:=.slice (some ⟨g2,0,none⟩) H.roots.length co) rfl rfl ?_ rfl
             simp only[execOp]
             go_simp
             try go_num
             try (rw[IntKind.wrap_i64];omega)
            ·refine plainV (v:=.int .i64 (y:Int)) rfl rfl ?_ rfl
             simp only[execOp]
             go_simp
             try go_num
             try (rw[IntKind.wrap_i64];omega)
            ·have x9:=(ev 250 rfl (by decide)).trans (hF 9 (by decide) (by simp[Region.binds]))
             have x10:=(ev 251 rfl (by decide)).trans (hF 10 (by decide) (by simp[Region.binds]))
             refine plainV (v:=.pointer (some ⟨g2,y,none⟩)) rfl rfl ?_ rfl
             simp only[execOp]
             go_simp
             try go_num
             try (rw[IntKind.wrap_i64];omega)
            ·have x11:=(ev 252 rfl (by decide)).trans (hF 11 (by decide) (by simp[Region.binds]))
             refine plainV (v:=.int .i64 x) rfl rfl ?_ rfl
             simp only[execOp]
             go_simp
             try go_num
             try (rw[IntKind.wrap_i64];omega)
            ·have x5:=(ev 246 rfl (by decide)).trans (hF 5 (by decide) (by simp[Region.binds]))
             have x12:=(ev 253 rfl (by decide)).trans (hF 12 (by decide) (by simp[Region.binds]))
             refine plainC (f:=57) (args:=#[.slice (some ⟨gt,0,none⟩) H.row.length H.row.length,.int .i64 x]) rfl rfl ?_ ((HWD.out W hB).mono ?_)
             ·simp only[execOp]
              go_simp
             ·rintro e w' ⟨rfl,rfl⟩
              exact⟨_,rfl,Below.refl _ _,rfl⟩
            ·have x3:=(ev 244 rfl (by decide)).trans (hF 3 (by decide) (by simp[Region.binds]))
             have x4:=(ev 245 rfl (by decide)).trans (hF 4 (by decide) (by simp[Region.binds]))
             refine plainV (v:=.pointer (some ⟨g2,y,none⟩)) rfl rfl ?_ rfl
             simp only[execOp]
             go_simp
             try go_num
             try (rw[IntKind.wrap_i64];omega)
           ·intro o uq W ho hB hF
            obtain rfl:=Option.some.inj ho
            have ev:∀s,DCm43 s=true→s<287→(ovr DCm43 A0 uq).tmps[s]?.getD undef=uq s:=fun s h1 h2=>(getD_at _ _).symm.trans (eval_in h1 (by omega))
            have o0:(ovr DCm43 A0 uq).tmps[0]?.getD undef=_:=(getD_at _ _).symm.trans ((eval_out (D:=DCm43) (a0:=A0) (u:=uq) (s:=0) rfl (by omega)).trans e0)
            have o6:(ovr DCm43 A0 uq).tmps[6]?.getD undef=_:=(getD_at _ _).symm.trans ((eval_out (D:=DCm43) (a0:=A0) (u:=uq) (s:=6) rfl (by omega)).trans e6)
            have o17:(ovr DCm43 A0 uq).tmps[17]?.getD undef=_:=(getD_at _ _).symm.trans ((eval_out (D:=DCm43) (a0:=A0) (u:=uq) (s:=17) rfl (by omega)).trans e17)
            have SW:=HCz.out.below hB
            obtain⟨⟨_,_,_,_,_⟩,⟨z5,z6,_,_⟩,_⟩:=nine_cells SW.ss.nine
            obtain⟨xw,xf⟩:=SW.ss.rootCell (q:=y) (by rw[HRL.out];omega)
            rw[HXQ.out]at xw
            clear SW
            have x13:=(ev 254 rfl (by decide)).trans (hF 13 (by decide))
            have x14:=(ev 255 rfl (by decide)).trans (hF 14 (by decide))
            refine plainS (W':=W.setCell ⟨g2,y,none⟩ (.int .i64 x2)) rfl ?_ ?_
            ·simp only[execOp]
             go_simp
            have HSW:Hid _:=(HCz.out.below hB).setRoot HDS.out y x2
            clear xw xf z5 z6 hF x13 x14 ev o0 o6 o17 e0 e6 e17 sz
            subst hA0
            simp[ovr,DCm43,List.range,List.range.loop]
            go_wp2
            exact⟨⟨y+1,by omega,by go_num,by rw[←HSE6.out];exact HSW.out⟩,by simp[intOf];omega⟩
          ·have hlt':¬(y:Int)<6:=by omega
           have e:y=H.roots.length:=by rw[HR6.out];omega
           have HC8:Hid (CS w wr P base g1 g2 g3 cr co cm (.slice sa sn sc) H u (.slice va u.length vc) (.slice (some ⟨wb,0,none⟩) H.row.length wcp) gt H.row.length (cmpC H).row (H.roots.map (nwW (mvL H F u))) (mapK (nwW (mvL H F u)) H.mourned 0) (toA H.row.length (mvL H F u))):=by
            show CS _ _ _ _ _ _ _ _ _ _ _ _ _ _ _ _ _ _ _ _ _
            rw[mapK_zero,←mapK_end,←e]
            exact hC
           clear hC HCz e
           obtain⟨⟨z0,z1,z2,z3,z4⟩,⟨z5,z6,z7,z8⟩,_⟩:=nine_cells HC8.out.ss.nine
           go_wp2_with fail
           clear z0 z1 z2 z3 z4 z5 z6 z7 z8
           go_loopw [18] (fun v18 wr=>∃y:Nat,y≤H.mourned.length∧v18 = .int .i64 (y:Int)∧CS w wr P base g1 g2 g3 cr co cm (.slice sa sn sc) H u (.slice va u.length vc) (.slice (some ⟨wb,0,none⟩) H.row.length wcp) gt H.row.length (cmpC H).row (H.roots.map (nwW (mvL H F u))) (mapK (nwW (mvL H F u)) H.mourned y) (toA H.row.length (mvL H F u))) (fun v18 _=>H.mourned.length-(intOf v18).toNat)
           case atStart=>exact⟨0,by omega,rfl,HC8.out⟩
           case round=>
            obtain⟨y,hy,rfl,hC⟩:=hrel
            clear HC8
            have HCz:Hid _:=hC
            obtain⟨⟨z0,z1,z2,z3,z4⟩,⟨z5,z6,z7,z8⟩,_⟩:=nine_cells hC.ss.nine
            by_cases hlt:y<H.mourned.length
            ·have hyr:=hlt
             have hyr':(y:Int)<(H.mourned.length:Int):=by omega
             obtain⟨x,hx⟩:∃x,H.mourned.getD y 0=x:=⟨_,rfl⟩
             obtain⟨x2,hx2⟩:∃x2,nwW (mvL H F u) x=x2:=⟨_,rfl⟩
             have HRL:Hid ((mapK (nwW (mvL H F u)) H.mourned y).length=H.mourned.length):=mapK_len _ _ (by omega)
             have HXQ:Hid ((mapK (nwW (mvL H F u)) H.mourned y).getD y 0=x):=by show _=_;rw[mapK_get _ _ hyr,hx]
             have HSE6:Hid ((mapK (nwW (mvL H F u)) H.mourned y).set y x2=mapK (nwW (mvL H F u)) H.mourned (y+1)):=by show _=_;rw[←mapK_set _ _ hyr,hx,hx2]
             have HWD:Hid (∀W,Below wr.heap.size wr W→Calls Tryz.prog 57 #[.slice (some ⟨gt,0,none⟩) H.row.length H.row.length,.int .i64 x] W fun e w'=>e = .returned (.int .i64 x2)∧w'=W):=fun W hW=>by
              rw[←hx2]
              have q1:=(HCz.out.below hW).toInts
              rw[toA_len]at q1
              exact HWDA.out W x q1 (HRIN.out x (by rw[←hx,List.getD_eq_getElem?_getD,List.getElem?_eq_getElem hyr];exact List.mem_append_right _ (List.getElem_mem hyr)))
             clear hx hx2 hC
             go_upto_region 47 with fail
             clear z0 z1 z2 z3 z4 z5 z6 z7 z8
             generalize hA0:(Act.mk _ [])=A0
             have e0:A0.tmps.getD 0 undef = .pointer (some ⟨P,0,none⟩):=by rw[←hA0];rfl
             have e6:A0.tmps.getD 6 undef = .slice (some ⟨gt,0,none⟩) H.row.length H.row.length:=by rw[←hA0];rfl
             have e18:A0.tmps.getD 18 undef = .int .i64 (y:Int):=by rw[←hA0];rfl
             have sz:A0.tmps.size=287:=by rw[←hA0];rfl
             refine wp_region_last (by kernel_rfl) DCm47 (by simp) ?_ 15 rfl dCm47 dCm47_inj (FCm47 H P g3 cm gt y x x2) ?_ ?_ ?_ ?_
             ·intro k o ho
              have hk:k<16:=(Array.getElem?_eq_some_iff.1 ho).1
              rcases (show k=0∨k=1∨k=2∨k=3∨k=4∨k=5∨k=6∨k=7∨k=8∨k=9∨k=10∨k=11∨k=12∨k=13∨k=14∨k=15 by omega) with rfl|rfl|rfl|rfl|rfl|rfl|rfl|rfl|rfl|rfl|rfl|rfl|rfl|rfl|rfl|rfl<;>(obtain rfl:=Option.some.inj ho;simp)
             ·intro k t W W' hb h
              match k,h with
              |0,h=>exact h
              |1,h=>exact h
              |2,h=>exact h
              |3,h=>exact h
              |4,h=>exact h
              |5,h=>exact h
              |6,h=>exact h
              |7,h=>exact h
              |8,h=>exact h
              |9,h=>exact h
              |10,h=>exact h
              |11,h=>exact h
              |12,h=>exact h
              |13,h=>exact h
              |14,h=>exact h
              |_+15,h=>exact h.elim
             ·intro l hC kk hkk
              have CL:=hC 15 _ rfl (fun h=>by omega)
              have l13:l 13=true:=CL ⟨13,.data⟩ (by simp) (by simp[Region.binds])
              have l14:l 14=true:=CL ⟨14,.data⟩ (by simp) (by simp[Region.binds])
              have l5:l 5=true:=hC 13 _ rfl (fun _=>l13) ⟨5,.data⟩ (by simp) (by simp[Region.binds])
              have l12:l 12=true:=hC 13 _ rfl (fun _=>l13) ⟨12,.data⟩ (by simp) (by simp[Region.binds])
              have l11:l 11=true:=hC 12 _ rfl (fun _=>l12) ⟨11,.data⟩ (by simp) (by simp[Region.binds])
              have l9:l 9=true:=hC 11 _ rfl (fun _=>l11) ⟨9,.data⟩ (by simp) (by simp[Region.binds])
              have l10:l 10=true:=hC 11 _ rfl (fun _=>l11) ⟨10,.data⟩ (by simp) (by simp[Region.binds])
              have l8:l 8=true:=hC 9 _ rfl (fun _=>l9) ⟨8,.data⟩ (by simp) (by simp[Region.binds])
              have l7:l 7=true:=hC 8 _ rfl (fun _=>l8) ⟨7,.data⟩ (by simp) (by simp[Region.binds])
              have l6:l 6=true:=hC 7 _ rfl (fun _=>l7) ⟨6,.data⟩ (by simp) (by simp[Region.binds])
              have l3:l 3=true:=hC 14 _ rfl (fun _=>l14) ⟨3,.data⟩ (by simp) (by simp[Region.binds])
              have l4:l 4=true:=hC 14 _ rfl (fun _=>l14) ⟨4,.data⟩ (by simp) (by simp[Region.binds])
              have l2:l 2=true:=hC 3 _ rfl (fun _=>l3) ⟨2,.data⟩ (by simp) (by simp[Region.binds])
              have l1:l 1=true:=hC 2 _ rfl (fun _=>l2) ⟨1,.data⟩ (by simp) (by simp[Region.binds])
              have l0:l 0=true:=hC 1 _ rfl (fun _=>l1) ⟨0,.data⟩ (by simp) (by simp[Region.binds])
              rcases (show kk=0∨kk=1∨kk=2∨kk=3∨kk=4∨kk=5∨kk=6∨kk=7∨kk=8∨kk=9∨kk=10∨kk=11∨kk=12∨kk=13∨kk=14 by omega) with rfl|rfl|rfl|rfl|rfl|rfl|rfl|rfl|rfl|rfl|rfl|rfl|rfl|rfl|rfl
              ·exact l0
              ·exact l1
              ·exact l2
              ·exact l3
              ·exact l4
              ·exact l5
              ·exact l6
              ·exact l7
              ·exact l8
              ·exact l9
              ·exact l10
              ·exact l11
              ·exact l12
              ·exact l13
              ·exact l14
             ·intro k o uq W hk ho hB hF
              have ev:∀s,DCm47 s=true→s<287→(ovr DCm47 A0 uq).tmps[s]?.getD undef=uq s:=fun s h1 h2=>(getD_at _ _).symm.trans (eval_in h1 (by omega))
              have o0:(ovr DCm47 A0 uq).tmps[0]?.getD undef=_:=(getD_at _ _).symm.trans ((eval_out (D:=DCm47) (a0:=A0) (u:=uq) (s:=0) rfl (by omega)).trans e0)
              have o6:(ovr DCm47 A0 uq).tmps[6]?.getD undef=_:=(getD_at _ _).symm.trans ((eval_out (D:=DCm47) (a0:=A0) (u:=uq) (s:=6) rfl (by omega)).trans e6)
              have o18:(ovr DCm47 A0 uq).tmps[18]?.getD undef=_:=(getD_at _ _).symm.trans ((eval_out (D:=DCm47) (a0:=A0) (u:=uq) (s:=18) rfl (by omega)).trans e18)
              have SW:=HCz.out.below hB
              obtain⟨⟨_,_,_,_,_⟩,⟨z5,z6,_,_⟩,_⟩:=nine_cells SW.ss.nine
              obtain⟨xw,xf⟩:=SW.ss.mourCell (q:=y) (by rw[HRL.out];omega)
              rw[HXQ.out]at xw
              clear SW
              rcases (show k=0∨k=1∨k=2∨k=3∨k=4∨k=5∨k=6∨k=7∨k=8∨k=9∨k=10∨k=11∨k=12∨k=13∨k=14 by omega) with rfl|rfl|rfl|rfl|rfl|rfl|rfl|rfl|rfl|rfl|rfl|rfl|rfl|rfl|rfl
              all_goals obtain rfl:=Option.some.inj ho
              ·refine plainV (v:=.pointer (some ⟨P,0,none⟩)) rfl rfl ?_ rfl
               simp only[execOp]
               go_simp
               try go_num
               try (rw[IntKind.wrap_i64];omega)
              ·have x0:=(ev 265 rfl (by decide)).trans (hF 0 (by decide) (by simp[Region.binds]))
               refine plainV (v:=.pointer (some ⟨P,0,none⟩)) rfl rfl ?_ rfl
               simp only[execOp]
               go_simp
               try go_num
               try (rw[IntKind.wrap_i64];omega)
              ·have x1:=(ev 266 rfl (by decide)).trans (hF 1 (by decide) (by simp[Region.binds]))
               refine plainV (v:=.pointer (some ⟨P,6,none⟩)) rfl rfl ?_ rfl
               simp only[execOp]
               go_simp
               try go_num
               try (rw[IntKind.wrap_i64];omega)
              ·have x2:=(ev 267 rfl (by decide)).trans (hF 2 (by decide) (by simp[Region.binds]))
               refine plainV (v:=.slice (some ⟨g3,0,none⟩) H.mourned.length cm) rfl rfl ?_ rfl
               simp only[execOp]
               go_simp
               try go_num
               try (rw[IntKind.wrap_i64];omega)
              ·refine plainV (v:=.int .i64 (y:Int)) rfl rfl ?_ rfl
               simp only[execOp]
               go_simp
               try go_num
               try (rw[IntKind.wrap_i64];omega)
              ·refine plainV (v:=.slice (some ⟨gt,0,none⟩) H.row.length H.row.length) rfl rfl ?_ rfl
               simp only[execOp]
               go_simp
               try go_num
               try (rw[IntKind.wrap_i64];omega)
              ·refine plainV (v:=.pointer (some ⟨P,0,none⟩)) rfl rfl ?_ rfl
               simp only[execOp]
               go_simp
               try go_num
               try (rw[IntKind.wrap_i64];omega)
              ·have x6:=(ev 271 rfl (by decide)).trans (hF 6 (by decide) (by simp[Region.binds]))
               refine plainV (v:=.pointer (some ⟨P,0,none⟩)) rfl rfl ?_ rfl
               simp only[execOp]
               go_simp
               try go_num
               try (rw[IntKind.wrap_i64];omega)
              ·have x7:=(ev 272 rfl (by decide)).trans (hF 7 (by decide) (by simp[Region.binds]))
               refine plainV (v:=.pointer (some ⟨P,6,none⟩)) rfl rfl ?_ rfl
               simp only[execOp]
               go_simp
               try go_num
               try (rw[IntKind.wrap_i64];omega)
              ·have x8:=(ev 273 rfl (by decide)).trans (hF 8 (by decide) (by simp[Region.binds]))
               refine plainV (v:=.slice (some ⟨g3,0,none⟩) H.mourned.length cm) rfl rfl ?_ rfl
               simp only[execOp]
               go_simp
               try go_num
               try (rw[IntKind.wrap_i64];omega)
              ·refine plainV (v:=.int .i64 (y:Int)) rfl rfl ?_ rfl
               simp only[execOp]
               go_simp
               try go_num
               try (rw[IntKind.wrap_i64];omega)
              ·have x9:=(ev 274 rfl (by decide)).trans (hF 9 (by decide) (by simp[Region.binds]))
               have x10:=(ev 275 rfl (by decide)).trans (hF 10 (by decide) (by simp[Region.binds]))
               refine plainV (v:=.pointer (some ⟨g3,y,none⟩)) rfl rfl ?_ rfl
               simp only[execOp]
               go_simp
               try go_num
               try (rw[IntKind.wrap_i64];omega)
              ·have x11:=(ev 276 rfl (by decide)).trans (hF 11 (by decide) (by simp[Region.binds]))
               refine plainV (v:=.int .i64 x) rfl rfl ?_ rfl
               simp only[execOp]
               go_simp
               try go_num
               try (rw[IntKind.wrap_i64];omega)
              ·have x5:=(ev 270 rfl (by decide)).trans (hF 5 (by decide) (by simp[Region.binds]))
               have x12:=(ev 277 rfl (by decide)).trans (hF 12 (by decide) (by simp[Region.binds]))
               refine plainC (f:=57) (args:=#[.slice (some ⟨gt,0,none⟩) H.row.length H.row.length,.int .i64 x]) rfl rfl ?_ ((HWD.out W hB).mono ?_)
               ·simp only[execOp]
                go_simp
               ·rintro e w' ⟨rfl,rfl⟩
                exact⟨_,rfl,Below.refl _ _,rfl⟩
              ·have x3:=(ev 268 rfl (by decide)).trans (hF 3 (by decide) (by simp[Region.binds]))
               have x4:=(ev 269 rfl (by decide)).trans (hF 4 (by decide) (by simp[Region.binds]))
               refine plainV (v:=.pointer (some ⟨g3,y,none⟩)) rfl rfl ?_ rfl
               simp only[execOp]
               go_simp
               try go_num
               try (rw[IntKind.wrap_i64];omega)
             ·intro o uq W ho hB hF
              obtain rfl:=Option.some.inj ho
              have ev:∀s,DCm47 s=true→s<287→(ovr DCm47 A0 uq).tmps[s]?.getD undef=uq s:=fun s h1 h2=>(getD_at _ _).symm.trans (eval_in h1 (by omega))
              have o0:(ovr DCm47 A0 uq).tmps[0]?.getD undef=_:=(getD_at _ _).symm.trans ((eval_out (D:=DCm47) (a0:=A0) (u:=uq) (s:=0) rfl (by omega)).trans e0)
              have o6:(ovr DCm47 A0 uq).tmps[6]?.getD undef=_:=(getD_at _ _).symm.trans ((eval_out (D:=DCm47) (a0:=A0) (u:=uq) (s:=6) rfl (by omega)).trans e6)
              have o18:(ovr DCm47 A0 uq).tmps[18]?.getD undef=_:=(getD_at _ _).symm.trans ((eval_out (D:=DCm47) (a0:=A0) (u:=uq) (s:=18) rfl (by omega)).trans e18)
              have SW:=HCz.out.below hB
              obtain⟨⟨_,_,_,_,_⟩,⟨z5,z6,_,_⟩,_⟩:=nine_cells SW.ss.nine
              obtain⟨xw,xf⟩:=SW.ss.mourCell (q:=y) (by rw[HRL.out];omega)
              rw[HXQ.out]at xw
              clear SW
              have x13:=(ev 278 rfl (by decide)).trans (hF 13 (by decide))
              have x14:=(ev 279 rfl (by decide)).trans (hF 14 (by decide))
              refine plainS (W':=W.setCell ⟨g3,y,none⟩ (.int .i64 x2)) rfl ?_ ?_
              ·simp only[execOp]
               go_simp
              have HSW:Hid _:=(HCz.out.below hB).setMour HDS.out y x2
              clear xw xf z5 z6 hF x13 x14 ev o0 o6 o18 e0 e6 e18 sz
              subst hA0
              simp[ovr,DCm47,List.range,List.range.loop]
              go_wp2
              exact⟨⟨y+1,by omega,by go_num,by rw[←HSE6.out];exact HSW.out⟩,by simp[intOf];omega⟩
            ·have hlt':¬(y:Int)<(H.mourned.length:Int):=by omega
             have e:y=H.mourned.length:=by omega
             subst e
             rw[mapK_end]at HCz
             have lr:(cmpC H).row.length=H.row.length:=hC.ss.lr
             have lo:(cmpC H).roots.length=H.roots.length:=List.length_map _
             have lm:(cmpC H).mourned.length=H.mourned.length:=List.length_map _
             have ero:H.roots.map (nwW (mvL H F u))=(cmpC H).roots:=by show _=H.roots.map (nwW (cmpG H));rw[HGG.out]
             have emo:H.mourned.map (nwW (mvL H F u))=(cmpC H).mourned:=by show _=H.mourned.map (nwW (cmpG H));rw[HGG.out]
             rw[ero,emo]at HCz
             have SE:=l9Seen_any (show HpAt wr (.slice (some ⟨g1,0,none⟩) (cmpC H).row.length cr) (.slice (some ⟨g2,0,none⟩) (cmpC H).roots.length co) (.slice (some ⟨g3,0,none⟩) (cmpC H).mourned.length cm) (.slice sa sn sc) (cmpC H) from HCz.out.ss.hp) HNU2.out HUP2.out
             rw[lr,lo,lm]at SE
             have HLR:Hid _:=lr
             have HLO:Hid _:=lo
             have HLM:Hid _:=lm
             obtain⟨Rr,hRr⟩:∃Rr,seenL (cmpC H)=Rr:=⟨_,rfl⟩
             rw[hRr]at SE
             have SE2:Calls Tryz.prog 50 #[hpv H (.slice (some ⟨g1,0,none⟩) H.row.length cr) (.slice (some ⟨g2,0,none⟩) H.roots.length co) (.slice (some ⟨g3,0,none⟩) H.mourned.length cm) (.slice sa sn sc)] wr fun e w'=>∃v',e = .returned v'∧rows.Own w' wr.heap.size v' Rr∧Below wr.heap.size wr w':=SE
             have HRE:Hid (Rr=(cmpF H).seen):=hRr.symm
             clear hRr SE hC lr lo lm ero emo
             go_wp2_with (go_at_call 50;refine SE2.mono ?_;clear SE2 z0 z1 z2 z3 z4 z5 z6 z7 z8;rintro e w5 ⟨u3,rfl,O3,b3⟩;have S3:=(HCz.out.below b3).ss;obtain⟨⟨z0,z1,z2,z3,z4⟩,⟨z5,z6,z7,z8⟩,zf⟩:=nine_cells S3.nine;have f7:=zf 7;have HSZ2:Hid _:=HCz.out.ss.ch.size;have HO3:Hid _:=own_base O3 HSZ2.out;have HS3:Hid _:=S3;obtain⟨ua,un,uc,rfl⟩:=ints_slice (own_ints O3);clear O3 b3 S3 zf)
             refine bodyPost_end (results_none rfl _ _ _) rfl ?_
             rw[HE.out]
             refine⟨_,rfl,nine_set7 HS3.out.nine _,?_,HS3.out.ch.trans ((one_ch _ P _ _).mono (by simp))⟩
             have hd:=HDS.out
             have hblk3:=blk_lt HO3.out
             have one:Ch [P] w5 (w5.setCell ⟨P,7,none⟩ (.slice ua un uc)):=one_ch _ _ _ _
             have k1:=HS3.out.row
             have k2:=HS3.out.roots
             have k3:=HS3.out.mour
             refine⟨⟨?_,?_,?_,?_⟩,?_⟩
             ·show World.ownsRow _ _ _ _ _ _ _
              rw[show (cmpF H).row.length=H.row.length from HLR.out]
              exact row_ch k1 one (fun q hq=>by rw[blk_of]at hq;simp at hq ⊢; have:=hd.pr;omega)
             ·show World.ownsRow _ _ _ _ _ _ _
              rw[show (cmpF H).roots.length=H.roots.length from HLO.out]
              exact row_ch k2 one (fun q hq=>by rw[blk_of]at hq;simp at hq ⊢; have:=hd.po;omega)
             ·show World.ownsRow _ _ _ _ _ _ _
              rw[show (cmpF H).mourned.length=H.mourned.length from HLM.out]
              exact row_ch k3 one (fun q hq=>by rw[blk_of]at hq;simp at hq ⊢; have:=hd.pm;omega)
             ·have h4:=row_ch HO3.out one (fun q hq=>by have:=(hblk3 q hq).1;simp;omega)
              rw[←HRE.out]
              exact own_base h4 hbs
             ·have q1:=hd.ro
              have q2:=hd.rm
              have q3:=hd.om
              cases ua with
              |none=>
               show ([g1]++[g2]++[g3]++[]).Nodup
               simp
               omega
              |some a=>
               have q4:=(hblk3 a.block (by show _ ∈ [a.block];simp)).1
               show ([g1]++[g2]++[g3]++[a.block]).Nodup
               simp
               omega
end Go.Proofs.YtemlagfaaibenaaGreat.hp
