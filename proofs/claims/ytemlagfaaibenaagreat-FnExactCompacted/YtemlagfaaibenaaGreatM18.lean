/-
  Chapter 12 as the program has it: Fetched. Chapter 15 as the program has it: the lists whose words are led anew, one behind the other. Chapter 15 as the program has it: the lists whose words are led anew, where they lie. Chapter 12 as the program has it: who sees the young, Slot by Slot; Seen with o
-/
import Derived.Test.YtemlagfaaibenaaGreatM17
import Derived.Test.YtemlagfaaibenaaGreatM16
import Derived.Test.YtemlagfaaibenaaGreatM15
import Derived.ChangeKeysEq
import Derived.Laws.Rows
namespace Go.Proofs.YtemlagfaaibenaaGreat.hp
open Go.RowKit rows heads words walks region
set_option maxRecDepth 100000
set_option linter.unusedVariables false
set_option linter.unusedSimpArgs false
theorem slots_at {w:World} {b off:Nat} {xs:List Int} {j:Nat} (hl:xs.length≤1000) (hc:chunk xs j≠0) (h6:uF (xs.getD j 0)≠6) :
    Calls Tryz.prog 63 #[cv (uS (xs.getD j 0)) (uF (xs.getD j 0)) (uC (xs.getD j 0)) (uH (xs.getD j 0)) (uP (xs.getD j 0)) (uM (xs.getD j 0)) (.slice (some ⟨b,off+j,none⟩) (chunk xs j).toNat (chunk xs j).toNat)] w fun e w'=>e = .returned (piece (some ⟨b,off+j,none⟩) 1 (cnP (pdOf (some ⟨b,off,none⟩) xs j)))∧Below w.heap.size w w':=by
 have q:=chunk_fits hc h6
 have hn:(if uF (xs.getD j 0)=7 then 1 else uS (xs.getD j 0))=((cnP (pdOf (some ⟨b,off,none⟩) xs j):Nat):Int):=by
  rw[cnP_of]
  by_cases h7:uF (xs.getD j 0)=7
  ·rw[if_pos h7];first|rw[if_pos h7];rfl|omega
  ·rw[if_neg h7];first|(rw[if_neg h7];omega)|omega
 have hle:1+cnP (pdOf (some ⟨b,off,none⟩) xs j)≤(chunk xs j).toNat:=by
  rw[cnP_of]
  by_cases h7:uF (xs.getD j 0)=7
  ·rw[if_pos h7];first|rw[if_pos h7];rfl|omega
  ·rw[if_neg h7];first|(rw[if_neg h7];omega)|omega
 exact slots_any _ _ _ _ _ _ b (off+j) (chunk xs j).toNat (cnP (pdOf (some ⟨b,off,none⟩) xs j)) w (by omega) hn hle
def mapI (g:Int→Int) (xs:List Int) (k:Nat):List Int:=(xs.take k).map g++xs.drop k
theorem mapI_get (g:Int→Int) (xs:List Int) {k:Nat} (hk:k<xs.length):(mapI g xs k).getD k 0=xs.getD k 0:=by
 unfold mapI
 rw[List.getD_eq_getElem?_getD,List.getElem?_append_right (by simp;omega),List.length_map,List.length_take,Nat.min_eq_left (by omega),Nat.sub_self,List.getElem?_drop,Nat.add_zero,←List.getD_eq_getElem?_getD]
theorem mapI_set (g:Int→Int) (xs:List Int) {k:Nat} (hk:k<xs.length):(mapI g xs k).set k (g (xs.getD k 0))=mapI g xs (k+1):=by
 unfold mapI
 rw[List.set_append_right _ _ (by simp;omega),List.length_map,List.length_take,Nat.min_eq_left (by omega),Nat.sub_self,List.drop_eq_getElem_cons hk,List.set_cons_zero,List.take_add_one,List.getElem?_eq_getElem hk,List.map_append,List.append_assoc,List.getD_eq_getElem?_getD,List.getElem?_eq_getElem hk]
 rfl
theorem mapI_len (g:Int→Int) (xs:List Int) {k:Nat} (hk:k≤xs.length):(mapI g xs k).length=xs.length:=by simp[mapI];omega
theorem mapI_same (g:Int→Int) (xs:List Int) {k:Nat} (hk:k<xs.length) (h:g (xs.getD k 0)=xs.getD k 0):mapI g xs k=mapI g xs (k+1):=by
 rw[←mapI_set g xs hk,h]
 have e:=mapI_get g xs hk
 refine (list_ext (by rw[List.length_set]) (fun i hi => ?_)).symm
 rw[List.length_set]at hi
 rw[List.getD_eq_getElem?_getD,List.getElem?_set]
 split
 ·rename_i e2
  subst e2
  rw[if_pos hi,Option.getD_some,←e]
 ·rw[←List.getD_eq_getElem?_getD]
theorem mapI_end (g:Int→Int) (xs:List Int):mapI g xs xs.length=xs.map g:=by simp[mapI]
theorem mapI_zero (g:Int→Int) (xs:List Int):mapI g xs 0=xs:=by simp[mapI]
structure ObsL (H:Hp) (OS:List Int):Prop where
 at':∀i,i<OS.length→∃j:Nat,OS.getD i 0=(j:Int)∧j+1+(slotsOf (cmpH H) (j:Int)).length≤(cmpH H).row.length
 later:∀i,i<OS.length→∀q,(OS.getD i 0).toNat≤q→covA (cmpH H) (OS.take i) q=false
def plK (OS:List Int) (k:Nat):Nat:=(OS.getD k 0).toNat
def stR (G:Int→Int) (H:Hp) (OS:List Int):Nat→Nat→List Int
 |0,_=>(cmpH H).row
 |1,_=>(cmpH H).row
 |k+2,i=>ledP G (cmpH H).row (addK (covA (cmpH H) (OS.take k)) (plK OS k) i)
def stO (G:Int→Int) (H:Hp):Nat→Nat→List Int
 |0,i=>mapI G H.roots i
 |_+1,_=>H.roots.map G
def stM (G:Int→Int) (H:Hp):Nat→Nat→List Int
 |0,_=>H.mourned
 |1,i=>mapI G H.mourned i
 |_+2,_=>H.mourned.map G
def lnK (H:Hp) (OS:List Int):Nat→Nat
 |0=>H.roots.length
 |1=>H.mourned.length
 |k+2=>(slotsOf (cmpH H) (OS.getD k 0)).length
def bkK (ga g2 g3:Nat):Nat→Nat
 |0=>g2
 |1=>g3
 |_+2=>ga
def ofK (OS:List Int):Nat→Nat
 |0=>0
 |1=>0
 |k+2=>plK OS k+1
def wdK (H:Hp) (OS:List Int):Nat→Nat→Int
 |0,i=>H.roots.getD i 0
 |1,i=>H.mourned.getD i 0
 |k+2,i=>(cmpH H).row.getD (plK OS k+1+i) 0
def St (G:Int→Int) (OS:List Int) (w W:World) (P base ga g2 g3 cr co cm:Nat) (vs:Value) (H:Hp) (k i:Nat):Prop:=SS w W P base ga g2 g3 cr co cm H.row.length H.roots.length H.mourned.length vs (.slice none 0 0) H [] (stR G H OS k i) (stO G H k i) (stM G H k i)
section
variable {G:Int→Int} {OS:List Int} {w W:World} {P base ga g2 g3 cr co cm:Nat} {vs:Value} {H:Hp} {k i:Nat}
theorem led_at (hO:ObsL H OS) (hk:k<OS.length) (hi:i<(slotsOf (cmpH H) (OS.getD k 0)).length):plK OS k+1+i<(cmpH H).row.length∧(ledP G (cmpH H).row (addK (covA (cmpH H) (OS.take k)) (plK OS k) i)).getD (plK OS k+1+i) 0=(cmpH H).row.getD (plK OS k+1+i) 0:=by
 obtain⟨j,ej,hl⟩:=hO.at' k hk
 have ep:plK OS k=j:=by unfold plK;rw[ej,Int.toNat_natCast]
 rw[ej]at hi
 have h1:plK OS k+1+i<(cmpH H).row.length:=by omega
 refine⟨h1,?_⟩
 have ek:addK (covA (cmpH H) (OS.take k)) (plK OS k) i (plK OS k+1+i)=false:=by
  unfold addK
  rw[hO.later k hk _ (by show plK OS k≤_;omega),decide_eq_false (show ¬plK OS k+1+i<plK OS k+1+i by omega)]
  simp
 rw[ledP_get h1,if_neg (by rw[ek];decide)]
theorem St.cell (hO:ObsL H OS) (hk:k<OS.length+2) (h:St G OS w W P base ga g2 g3 cr co cm vs H k i) (hi:i<lnK H OS k):W.cell? ⟨bkK ga g2 g3 k,ofK OS k+i,none⟩=some (.int .i64 (wdK H OS k i))∧W.frozen? ⟨bkK ga g2 g3 k,ofK OS k+i,none⟩=false:=by
 match k,hk,h,hi with
 |0,hk,h,hi=>
  have hi':i<H.roots.length:=hi
  have e:=SS.rootCell h (q:=i) (by show i<(mapI G H.roots i).length;rw[mapI_len _ _ (by omega)];exact hi')
  rw[show (stO G H 0 i).getD i 0=H.roots.getD i 0 from mapI_get _ _ hi']at e
  show W.cell? ⟨g2,0+i,none⟩=_∧W.frozen? ⟨g2,0+i,none⟩=_
  rw[Nat.zero_add]
  exact e
 |1,hk,h,hi=>
  have hi':i<H.mourned.length:=hi
  have e:=SS.mourCell h (q:=i) (by show i<(mapI G H.mourned i).length;rw[mapI_len _ _ (by omega)];exact hi')
  rw[show (stM G H 1 i).getD i 0=H.mourned.getD i 0 from mapI_get _ _ hi']at e
  show W.cell? ⟨g3,0+i,none⟩=_∧W.frozen? ⟨g3,0+i,none⟩=_
  rw[Nat.zero_add]
  exact e
 |k+2,hk,h,hi=>
  obtain⟨h1,h2⟩:=led_at (G:=G) hO (by omega) hi
  have e:=SS.rowCell h (q:=plK OS k+1+i) (by show _<(ledP _ _ _).length;rw[ledP_len];exact h1)
  rw[show (stR G H OS (k+2) i).getD (plK OS k+1+i) 0=_ from h2]at e
  exact e
theorem St.set (hO:ObsL H OS) (hk:k<OS.length+2) (d:Dst w P base ga g2 g3 vs) (h:St G OS w W P base ga g2 g3 cr co cm vs H k i) (hi:i<lnK H OS k):St G OS w (W.setCell ⟨bkK ga g2 g3 k,ofK OS k+i,none⟩ (.int .i64 (G (wdK H OS k i)))) P base ga g2 g3 cr co cm vs H k (i+1):=by
 match k,hk,h,hi with
 |0,hk,h,hi=>
  have e:=SS.setRoot h d i (G (H.roots.getD i 0))
  rw[show (stO G H 0 i).set i (G (H.roots.getD i 0))=stO G H 0 (i+1) from mapI_set _ _ hi]at e
  show SS _ (W.setCell ⟨g2,0+i,none⟩ _) _ _ _ _ _ _ _ _ _ _ _ _ _ _ _ _ _ _
  rw[Nat.zero_add]
  exact e
 |1,hk,h,hi=>
  have e:=SS.setMour h d i (G (H.mourned.getD i 0))
  rw[show (stM G H 1 i).set i (G (H.mourned.getD i 0))=stM G H 1 (i+1) from mapI_set _ _ hi]at e
  show SS _ (W.setCell ⟨g3,0+i,none⟩ _) _ _ _ _ _ _ _ _ _ _ _ _ _ _ _ _ _ _
  rw[Nat.zero_add]
  exact e
 |k+2,hk,h,hi=>
  obtain⟨h1,_⟩:=led_at (G:=G) hO (by omega) hi
  have e:=SS.setRow h d (plK OS k+1+i) (G ((cmpH H).row.getD (plK OS k+1+i) 0))
  rw[show (stR G H OS (k+2) i).set (plK OS k+1+i) (G ((cmpH H).row.getD (plK OS k+1+i) 0))=stR G H OS (k+2) (i+1) from by
   show (ledP _ _ _).set _ _=ledP _ _ _
   rw[addK_next,←ledP_set h1]]at e
  exact e
theorem St.same (hO:ObsL H OS) (hk:k<OS.length+2) (h:St G OS w W P base ga g2 g3 cr co cm vs H k i) (hi:i<lnK H OS k) (hg:G (wdK H OS k i)=wdK H OS k i):St G OS w W P base ga g2 g3 cr co cm vs H k (i+1):=by
 match k,hk,h,hi,hg with
 |0,hk,h,hi,hg=>
  unfold St at h ⊢
  rw[show stO G H 0 (i+1)=stO G H 0 i from (mapI_same _ _ hi hg).symm]
  exact h
 |1,hk,h,hi,hg=>
  unfold St at h ⊢
  rw[show stM G H 1 (i+1)=stM G H 1 i from (mapI_same _ _ hi hg).symm]
  exact h
 |k+2,hk,h,hi,hg=>
  unfold St at h ⊢
  rw[show stR G H OS (k+2) (i+1)=stR G H OS (k+2) i from by
   show ledP _ _ _=ledP _ _ _
   rw[addK_next,←ledP_same hg]]
  exact h
theorem St.next (hO:ObsL H OS) (hk:k<OS.length+2) (h:St G OS w W P base ga g2 g3 cr co cm vs H k (lnK H OS k)):St G OS w W P base ga g2 g3 cr co cm vs H (k+1) 0:=by
 match k,hk,h with
 |0,hk,h=>
  unfold St at h ⊢
  rw[show stO G H 0 (lnK H OS 0)=H.roots.map G from mapI_end _ _]at h
  rw[show stM G H (0+1) 0=H.mourned from mapI_zero _ _]
  exact h
 |1,hk,h=>
  unfold St at h ⊢
  rw[show stM G H 1 (lnK H OS 1)=H.mourned.map G from mapI_end _ _]at h
  rw[show stR G H OS (1+1) 0=(cmpH H).row from by
   show ledP _ _ (addK _ _ 0)=_
   rw[addK_zero]
   show ledP _ _ (fun _=>false)=_
   exact ledP_none _ _]
  exact h
 |k+2,hk,h=>
  obtain⟨j,ej,_⟩:=hO.at' k (by omega)
  unfold St at h ⊢
  rw[show stR G H OS (k+2+1) 0=stR G H OS (k+2) (lnK H OS (k+2)) from by
   show ledP _ _ (addK (covA _ (OS.take (k+1))) _ 0)=ledP _ _ (addK (covA _ (OS.take k)) (plK OS k) (slotsOf (cmpH H) (OS.getD k 0)).length)
   rw[addK_zero]
   refine ledP_ext (fun q _ => ?_)
   have ep:plK OS k=j:=by unfold plK;rw[ej,Int.toNat_natCast]
   rw[covA_take (by omega),ej,ep,addK_lw]]
  exact h
end
theorem objs_placesR {a:Option Addr} {H:Hp} {ps:List Int} (hn:numB H=true) (hps:placesR H=some ps):plL (objsP a H)=objL H ps:=by
 have hro:=roomB_of (a:=a) hn hps
 obtain⟨r,u,e1,e2,e3,e4⟩:=room_some hn hro
 have hb:placesB H=some ps:=by
  have:=hps
  unfold placesR at this
  split at this
  ·cases this
  ·exact this
 rw[e3]at hb
 cases hb
 have hp:=(places_plc hps).1
 have hpn:∀p ∈ r++u,∃j:Nat,p=j:=fun p hp'=>by obtain⟨j,e,_⟩:=hp p hp';exact⟨j,e⟩
 rw[e4]
 unfold objL
 rw[List.filter_append]
 have q1:plL (pdsOf a H.row r++keepP (pdsOf a H.row u))=plL (pdsOf a H.row r)++plL (keepP (pdsOf a H.row u)):=by unfold plL;rw[List.map_append]
 rw[q1,pl_all a H r (fun p hp'=>hpn p (List.mem_append.2 (.inl hp'))),pl_keep a H u (fun p hp'=>hpn p (List.mem_append.2 (.inr hp')))]
 congr 1
 symm
 rw[List.filter_eq_self]
 intro p hp'
 obtain⟨_,_,r',u',hr',_,hall,_⟩:=places_facts hps
 rw[e1]at hr'
 cases hr'
 rw[List.all_eq_true]at hall
 have:=hall p hp'
 unfold roomOk at this
 rw[Bool.and_eq_true]at this
 exact this.1
theorem obj_made {a:Option Addr} {H:Hp} {ps:List Int} (hn:numB H=true) (hps:placesR H=some ps) {i:Nat} (hi:i<(objsP a H).length) :
    ∃j:Nat,(objsP a H).getD i pdD=pdOf a H.row j∧chunk H.row j≠0∧uF (H.row.getD j 0)≠6∧(objL H ps).getD i 0=(j:Int)∧cnP (pdOf a H.row j)=(slotsOf H (j:Int)).length∧j+1+(slotsOf H (j:Int)).length≤H.row.length:=by
 have hpl:=objs_placesR (a:=a) hn hps
 obtain⟨j,ed,hc,h6⟩:=objs_in (roomB_of (a:=a) hn hps) _ (mem_getDP hi)
 obtain⟨_,_,c2,c3⟩:=chunk_fits hc h6
 have se:=slots_end hc h6
 have hg:(objL H ps).getD i 0=(j:Int):=by
  rw[←hpl]
  unfold plL
  rw[List.getD_eq_getElem?_getD,List.getElem?_map,List.getElem?_eq_getElem hi]
  have e2:(objsP a H)[i]=pdOf a H.row j:=by
   rw[←ed,List.getD_eq_getElem?_getD,List.getElem?_eq_getElem hi];rfl
  rw[e2];rfl
 refine⟨j,ed,hc,h6,hg,?_,by omega⟩
 rw[slots_len hc,cnP_of]
 unfold cnS
 split<;>simp_all
def vlK (ga g2 g3 co cm:Nat) (H:Hp) (OS:List Int):Nat→Value
 |0 => .slice (some ⟨g2,0,none⟩) H.roots.length co
 |1 => .slice (some ⟨g3,0,none⟩) H.mourned.length cm
 |k+2=>piece (some ⟨ga,plK OS k,none⟩) 1 (slotsOf (cmpH H) (OS.getD k 0)).length
def vsK (ga g2 g3 co cm:Nat) (H:Hp) (OS:List Int) (n:Nat):List Value:=(List.range n).map (vlK ga g2 g3 co cm H OS)
section
variable {ga g2 g3 co cm:Nat} {H:Hp} {OS:List Int} {k n:Nat}
theorem vlK_is:∃a c,vlK ga g2 g3 co cm H OS k = .slice a (lnK H OS k) c∧(0<lnK H OS k→a=some ⟨bkK ga g2 g3 k,ofK OS k,none⟩):=by
 match k with
 |0=>exact⟨_,_,rfl,fun _=>rfl⟩
 |1=>exact⟨_,_,rfl,fun _=>rfl⟩
 |k+2=>
  refine⟨_,_,rfl,fun h => ?_⟩
  have h':(slotsOf (cmpH H) (OS.getD k 0)).length≠0:=by
   have:0<(slotsOf (cmpH H) (OS.getD k 0)).length:=h
   omega
  rw[if_neg h']
  rfl
theorem vsK_len:(vsK ga g2 g3 co cm H OS n).length=n:=by simp[vsK]
theorem vsK_next:vsK ga g2 g3 co cm H OS (n+1)=vsK ga g2 g3 co cm H OS n++[vlK ga g2 g3 co cm H OS n]:=by
 unfold vsK
 rw[List.range_succ,List.map_append]
 rfl
theorem vsK_get (hk:k<n):(vsK ga g2 g3 co cm H OS n)[k]? = some (vlK ga g2 g3 co cm H OS k):=by
 unfold vsK
 rw[List.getElem?_map,List.getElem?_range hk]
 rfl
end
theorem cmp_obs {H:Hp} {ps r u l:List Int} (CP:CmP H ps r u l):ObsL H (objL (cmpH H) (r++l)):=by
 have hn:=CP.numB1
 have hps:=CP.plc
 have hpl:=objs_placesR (a:=none) hn hps
 have hl:(objsP none (cmpH H)).length=(objL (cmpH H) (r++l)).length:=by rw[←hpl];unfold plL;rw[List.length_map]
 refine⟨fun i hi => ?_,fun i hi q hq=>covA_later (apart_of hps) (fun p hp=>hp) ((places_rising hps).filter _) hi hq⟩
 obtain⟨j,_,_,_,q4,_,q6⟩:=obj_made (a:=none) hn hps (by rw[hl];exact hi)
 exact⟨j,q4,q6⟩
theorem slots_vl {H:Hp} {ps r u l:List Int} (CP:CmP H ps r u l) {ga g2 g3 co cm:Nat} (hl:(cmpH H).row.length≤1000) {i:Nat} (hi:i<(objsP (some ⟨ga,0,none⟩) (cmpH H)).length) (V:World) :
    Calls Tryz.prog 63 #[cv ((objsP (some ⟨ga,0,none⟩) (cmpH H)).getD i pdD).s ((objsP (some ⟨ga,0,none⟩) (cmpH H)).getD i pdD).f ((objsP (some ⟨ga,0,none⟩) (cmpH H)).getD i pdD).c ((objsP (some ⟨ga,0,none⟩) (cmpH H)).getD i pdD).h ((objsP (some ⟨ga,0,none⟩) (cmpH H)).getD i pdD).p ((objsP (some ⟨ga,0,none⟩) (cmpH H)).getD i pdD).m ((objsP (some ⟨ga,0,none⟩) (cmpH H)).getD i pdD).u] V fun e w'=>e = .returned (vlK ga g2 g3 co cm H (objL (cmpH H) (r++l)) (i+2))∧Below V.heap.size V w':=by
 obtain⟨j,e,hc,h6,q4,q5,q6⟩:=obj_made (a:=some ⟨ga,0,none⟩) CP.numB1 CP.plc hi
 have q:=chunk_fits hc h6
 rw[e]
 have eu:(pdOf (some ⟨ga,0,none⟩) (cmpH H).row j).u = .slice (some ⟨ga,0+j,none⟩) (chunk (cmpH H).row j).toNat (chunk (cmpH H).row j).toNat:=piece_at ga 0 j _ (by omega)
 rw[eu]
 have S:=slots_at (w:=V) (b:=ga) (off:=0) hl hc h6
 rw[q5]at S
 have ev:vlK ga g2 g3 co cm H (objL (cmpH H) (r++l)) (i+2)=piece (some ⟨ga,0+j,none⟩) 1 (slotsOf (cmpH H) (j:Int)).length:=by
  show piece (some ⟨ga,plK _ i,none⟩) 1 (slotsOf (cmpH H) ((objL (cmpH H) (r++l)).getD i 0)).length=_
  unfold plK
  rw[q4,Int.toNat_natCast,Nat.zero_add]
 rw[ev]
 exact S
structure CqS (w W:World) (H:Hp) (c2 c5 c6 c7:Value):Prop where
 n0:Nine W w.heap.size 27 (.int .i64 H.half) (.int .i64 H.old) c2 (.int .i64 H.side) (.int .i64 H.top) c5 c6 c7 (.int .i64 H.seed)
 n1:Nine W (w.heap.size+1) 27 (.int .i64 0) (.int .i64 0) (.slice none 0 0) (.int .i64 0) (.int .i64 0) (.slice none 0 0) (.slice none 0 0) (.slice none 0 0) (.int .i64 0)
 below:Below w.heap.size w W
 size:w.heap.size+2≤W.heap.size
theorem CqS.grow {w W W':World} {H:Hp} {c2 c5 c6 c7:Value} (h:CqS w W H c2 c5 c6 c7) (hb:Below W.heap.size W W'):CqS w W' H c2 c5 c6 c7:=⟨nine_below h.n0 hb,nine_below h.n1 hb,h.below.trans (hb.mono h.below.size),Nat.le_trans h.size hb.size⟩
theorem CqS.fields {w W:World} {H:Hp} {c2 c5 c6 c7:Value} (h:CqS w W H c2 c5 c6 c7) {W':World} {d2 d5 d6 d7:Value} (hc:Ch [w.heap.size] W W') (h2:Nine W' w.heap.size 27 (.int .i64 H.half) (.int .i64 H.old) d2 (.int .i64 H.side) (.int .i64 H.top) d5 d6 d7 (.int .i64 H.seed)):CqS w W' H d2 d5 d6 d7:=
 ⟨h2,nine_ch h.n1 hc (by simp),h.below.trans (below_ch hc h.below.size (fun k hk=>by simp at hk;omega)),Nat.le_trans h.size hc.size⟩
theorem hpX2 {w:World} {H:Hp} (vr vo vm vs:Value):CqS w ((w.alloc (hpb H vr vo vm vs)).alloc (hpb ⟨0,0,[],0,0,[],[],[],0⟩ (.slice none 0 0) (.slice none 0 0) (.slice none 0 0) (.slice none 0 0))) H vr vo vm vs:=by
 have B0:Below w.heap.size w (w.alloc (hpb H vr vo vm vs)):=(Below.refl _ _).alloc (Nat.le_refl _) _
 exact⟨heap_alloc2_old _ _ _,heap_alloc2_new _ _ _,B0.alloc B0.size _,by simp⟩
set_option maxHeartbeats 16000000 in
theorem copiedHeap_any {w:World} {vr vo vm vs:Value} {H:Hp} (h:HpAt w vr vo vm vs H) (hs:hpSize H≤1048576) :
    Calls Tryz.prog 29 #[hpv H vr vo vm vs] w fun e w'=>∃g1 g2 g3 g4,e = .returned (hpv H (.slice (some ⟨g1,0,none⟩) H.row.length H.row.length) (.slice (some ⟨g2,0,none⟩) H.roots.length H.roots.length) (.slice (some ⟨g3,0,none⟩) H.mourned.length H.mourned.length) (.slice (some ⟨g4,0,none⟩) H.seen.length H.seen.length))∧OwnH w' w.heap.size (.slice (some ⟨g1,0,none⟩) H.row.length H.row.length) (.slice (some ⟨g2,0,none⟩) H.roots.length H.roots.length) (.slice (some ⟨g3,0,none⟩) H.mourned.length H.mourned.length) (.slice (some ⟨g4,0,none⟩) H.seen.length H.seen.length) H∧Below w.heap.size w w':=by
 obtain⟨a1,c1,a2,c2,a3,c3,a4,c4,e1,e2,e3,e4⟩:=hpAt_slices h
 subst e1 e2 e3 e4
 have l1:H.row.length≤1048576:=by unfold hpSize at hs;omega
 have l2:H.roots.length≤1048576:=by unfold hpSize at hs;omega
 have l3:H.mourned.length≤1048576:=by unfold hpSize at hs;omega
 have l4:H.seen.length≤1048576:=by unfold hpSize at hs;omega
 have HH:Hid _:=h
 have HS0:Hid _:=hpX2 (w:=w) (H:=H) (.slice a1 H.row.length c1) (.slice a2 H.roots.length c2) (.slice a3 H.mourned.length c3) (.slice a4 H.seen.length c4)
 clear h hs
 go_enter Tryz.func29,Tryz.ntmps29
 go_upto_region 1 with fail
 generalize (w.alloc _).alloc _=W0 at *
 obtain⟨⟨z0,z1,z2,z3,z4⟩,⟨z5,z6,z7,z8⟩,zf⟩:=nine_cells HS0.out.n0
 have CP:=copied_any (intsAt_below HH.out.1 HS0.out.below) l1
 clear zf
 go_upto_region 2 with (go_at_call 61;refine CP.mono ?_;clear CP z0 z1 z2 z3 z4 z5 z6 z7 z8;rintro e w11 ⟨rfl,F1,b1⟩;have HF:Hid _:=F1;have HB:Hid _:=b1;obtain⟨⟨z0,z1,z2,z3,z4⟩,⟨z5,z6,z7,z8⟩,zf⟩:=nine_cells (HS0.out.grow b1).n0;have f2:=zf 2;clear F1 b1 zf)
 have hg1:w.heap.size+2≤W0.heap.size:=HS0.out.size
 have HS1:Hid (CqS w (w11.setCell ⟨w.heap.size,2,none⟩ (.slice (some ⟨W0.heap.size,0,none⟩) H.row.length H.row.length)) H (.slice (some ⟨W0.heap.size,0,none⟩) H.row.length H.row.length) (.slice a2 H.roots.length c2) (.slice a3 H.mourned.length c3) (.slice a4 H.seen.length c4)):=(HS0.out.grow HB.out).fields (one_ch _ _ _ _) (nine_set2 (HS0.out.grow HB.out).n0 _)
 have HO1:Hid (rows.Own (w11.setCell ⟨w.heap.size,2,none⟩ (.slice (some ⟨W0.heap.size,0,none⟩) H.row.length H.row.length)) (w.heap.size+2) (.slice (some ⟨W0.heap.size,0,none⟩) H.row.length H.row.length) H.row):=row_ch (S:=[w.heap.size]) (full_own HF.out hg1 (show H.row.length≤maxLen by unfold maxLen;omega)) (one_ch _ _ _ _) (fun j hj=>by obtain rfl:j=W0.heap.size:=(by simpa [blk,Value.ownBlock] using hj);simp;omega)
 clear HF HB z0 z1 z2 z3 z4 z5 z6 z7 z8 HS0 f2
 generalize w11.setCell ⟨w.heap.size,2,none⟩ (.slice (some ⟨W0.heap.size,0,none⟩) H.row.length H.row.length)=W1 at *
 generalize W0.heap.size=g1 at *
 have HO01:Hid _:=HO1.out
 obtain⟨⟨z0,z1,z2,z3,z4⟩,⟨z5,z6,z7,z8⟩,zf⟩:=nine_cells HS1.out.n0
 have CP:=copied_any (intsAt_below HH.out.2.1 HS1.out.below) l2
 clear zf
 go_upto_region 3 with (go_at_call 61;refine CP.mono ?_;clear CP z0 z1 z2 z3 z4 z5 z6 z7 z8;rintro e w12 ⟨rfl,F1,b1⟩;have HF:Hid _:=F1;have HB:Hid _:=b1;obtain⟨⟨z0,z1,z2,z3,z4⟩,⟨z5,z6,z7,z8⟩,zf⟩:=nine_cells (HS1.out.grow b1).n0;have f5:=zf 5;clear F1 b1 zf)
 have hg2:w.heap.size+2≤W1.heap.size:=HS1.out.size
 have HS2:Hid (CqS w (w12.setCell ⟨w.heap.size,5,none⟩ (.slice (some ⟨W1.heap.size,0,none⟩) H.roots.length H.roots.length)) H (.slice (some ⟨g1,0,none⟩) H.row.length H.row.length) (.slice (some ⟨W1.heap.size,0,none⟩) H.roots.length H.roots.length) (.slice a3 H.mourned.length c3) (.slice a4 H.seen.length c4)):=(HS1.out.grow HB.out).fields (one_ch _ _ _ _) (nine_set5 (HS1.out.grow HB.out).n0 _)
 have HO2:Hid (rows.Own (w12.setCell ⟨w.heap.size,5,none⟩ (.slice (some ⟨W1.heap.size,0,none⟩) H.roots.length H.roots.length)) (w.heap.size+2) (.slice (some ⟨W1.heap.size,0,none⟩) H.roots.length H.roots.length) H.roots):=row_ch (S:=[w.heap.size]) (full_own HF.out hg2 (show H.roots.length≤maxLen by unfold maxLen;omega)) (one_ch _ _ _ _) (fun j hj=>by obtain rfl:j=W1.heap.size:=(by simpa [blk,Value.ownBlock] using hj);simp;omega)
 have HO1:Hid (rows.Own (w12.setCell ⟨w.heap.size,5,none⟩ (.slice (some ⟨W1.heap.size,0,none⟩) H.roots.length H.roots.length)) (w.heap.size+2) (.slice (some ⟨g1,0,none⟩) H.row.length H.row.length) H.row):=row_ch (S:=[w.heap.size]) (own_below HO1.out HB.out) (one_ch _ _ _ _) (fun j hj=>by have:=(blk_lt HO1.out j hj).1;simp;omega)
 have HD12:Hid (g1<W1.heap.size):=(blk_lt HO01.out g1 (List.mem_singleton.2 rfl)).2
 clear HF HB z0 z1 z2 z3 z4 z5 z6 z7 z8 HS1 f5
 generalize w12.setCell ⟨w.heap.size,5,none⟩ (.slice (some ⟨W1.heap.size,0,none⟩) H.roots.length H.roots.length)=W2 at *
 generalize W1.heap.size=g2 at *
 have HO01:Hid _:=HO1.out
 have HO02:Hid _:=HO2.out
 obtain⟨⟨z0,z1,z2,z3,z4⟩,⟨z5,z6,z7,z8⟩,zf⟩:=nine_cells HS2.out.n0
 have CP:=copied_any (intsAt_below HH.out.2.2.1 HS2.out.below) l3
 clear zf
 go_upto_region 4 with (go_at_call 61;refine CP.mono ?_;clear CP z0 z1 z2 z3 z4 z5 z6 z7 z8;rintro e w13 ⟨rfl,F1,b1⟩;have HF:Hid _:=F1;have HB:Hid _:=b1;obtain⟨⟨z0,z1,z2,z3,z4⟩,⟨z5,z6,z7,z8⟩,zf⟩:=nine_cells (HS2.out.grow b1).n0;have f6:=zf 6;clear F1 b1 zf)
 have hg3:w.heap.size+2≤W2.heap.size:=HS2.out.size
 have HS3:Hid (CqS w (w13.setCell ⟨w.heap.size,6,none⟩ (.slice (some ⟨W2.heap.size,0,none⟩) H.mourned.length H.mourned.length)) H (.slice (some ⟨g1,0,none⟩) H.row.length H.row.length) (.slice (some ⟨g2,0,none⟩) H.roots.length H.roots.length) (.slice (some ⟨W2.heap.size,0,none⟩) H.mourned.length H.mourned.length) (.slice a4 H.seen.length c4)):=(HS2.out.grow HB.out).fields (one_ch _ _ _ _) (nine_set6 (HS2.out.grow HB.out).n0 _)
 have HO3:Hid (rows.Own (w13.setCell ⟨w.heap.size,6,none⟩ (.slice (some ⟨W2.heap.size,0,none⟩) H.mourned.length H.mourned.length)) (w.heap.size+2) (.slice (some ⟨W2.heap.size,0,none⟩) H.mourned.length H.mourned.length) H.mourned):=row_ch (S:=[w.heap.size]) (full_own HF.out hg3 (show H.mourned.length≤maxLen by unfold maxLen;omega)) (one_ch _ _ _ _) (fun j hj=>by obtain rfl:j=W2.heap.size:=(by simpa [blk,Value.ownBlock] using hj);simp;omega)
 have HO1:Hid (rows.Own (w13.setCell ⟨w.heap.size,6,none⟩ (.slice (some ⟨W2.heap.size,0,none⟩) H.mourned.length H.mourned.length)) (w.heap.size+2) (.slice (some ⟨g1,0,none⟩) H.row.length H.row.length) H.row):=row_ch (S:=[w.heap.size]) (own_below HO1.out HB.out) (one_ch _ _ _ _) (fun j hj=>by have:=(blk_lt HO1.out j hj).1;simp;omega)
 have HD13:Hid (g1<W2.heap.size):=(blk_lt HO01.out g1 (List.mem_singleton.2 rfl)).2
 have HO2:Hid (rows.Own (w13.setCell ⟨w.heap.size,6,none⟩ (.slice (some ⟨W2.heap.size,0,none⟩) H.mourned.length H.mourned.length)) (w.heap.size+2) (.slice (some ⟨g2,0,none⟩) H.roots.length H.roots.length) H.roots):=row_ch (S:=[w.heap.size]) (own_below HO2.out HB.out) (one_ch _ _ _ _) (fun j hj=>by have:=(blk_lt HO2.out j hj).1;simp;omega)
 have HD23:Hid (g2<W2.heap.size):=(blk_lt HO02.out g2 (List.mem_singleton.2 rfl)).2
 clear HF HB z0 z1 z2 z3 z4 z5 z6 z7 z8 HS2 f6
 generalize w13.setCell ⟨w.heap.size,6,none⟩ (.slice (some ⟨W2.heap.size,0,none⟩) H.mourned.length H.mourned.length)=W3 at *
 generalize W2.heap.size=g3 at *
 have HO01:Hid _:=HO1.out
 have HO02:Hid _:=HO2.out
 have HO03:Hid _:=HO3.out
 obtain⟨⟨z0,z1,z2,z3,z4⟩,⟨z5,z6,z7,z8⟩,zf⟩:=nine_cells HS3.out.n0
 have CP:=copied_any (intsAt_below HH.out.2.2.2 HS3.out.below) l4
 clear zf
 go_upto_region 5 with (go_at_call 61;refine CP.mono ?_;clear CP z0 z1 z2 z3 z4 z5 z6 z7 z8;rintro e w14 ⟨rfl,F1,b1⟩;have HF:Hid _:=F1;have HB:Hid _:=b1;obtain⟨⟨z0,z1,z2,z3,z4⟩,⟨z5,z6,z7,z8⟩,zf⟩:=nine_cells (HS3.out.grow b1).n0;have f7:=zf 7;clear F1 b1 zf)
 have hg4:w.heap.size+2≤W3.heap.size:=HS3.out.size
 have HS4:Hid (CqS w (w14.setCell ⟨w.heap.size,7,none⟩ (.slice (some ⟨W3.heap.size,0,none⟩) H.seen.length H.seen.length)) H (.slice (some ⟨g1,0,none⟩) H.row.length H.row.length) (.slice (some ⟨g2,0,none⟩) H.roots.length H.roots.length) (.slice (some ⟨g3,0,none⟩) H.mourned.length H.mourned.length) (.slice (some ⟨W3.heap.size,0,none⟩) H.seen.length H.seen.length)):=(HS3.out.grow HB.out).fields (one_ch _ _ _ _) (nine_set7 (HS3.out.grow HB.out).n0 _)
 have HO4:Hid (rows.Own (w14.setCell ⟨w.heap.size,7,none⟩ (.slice (some ⟨W3.heap.size,0,none⟩) H.seen.length H.seen.length)) (w.heap.size+2) (.slice (some ⟨W3.heap.size,0,none⟩) H.seen.length H.seen.length) H.seen):=row_ch (S:=[w.heap.size]) (full_own HF.out hg4 (show H.seen.length≤maxLen by unfold maxLen;omega)) (one_ch _ _ _ _) (fun j hj=>by obtain rfl:j=W3.heap.size:=(by simpa [blk,Value.ownBlock] using hj);simp;omega)
 have HO1:Hid (rows.Own (w14.setCell ⟨w.heap.size,7,none⟩ (.slice (some ⟨W3.heap.size,0,none⟩) H.seen.length H.seen.length)) (w.heap.size+2) (.slice (some ⟨g1,0,none⟩) H.row.length H.row.length) H.row):=row_ch (S:=[w.heap.size]) (own_below HO1.out HB.out) (one_ch _ _ _ _) (fun j hj=>by have:=(blk_lt HO1.out j hj).1;simp;omega)
 have HD14:Hid (g1<W3.heap.size):=(blk_lt HO01.out g1 (List.mem_singleton.2 rfl)).2
 have HO2:Hid (rows.Own (w14.setCell ⟨w.heap.size,7,none⟩ (.slice (some ⟨W3.heap.size,0,none⟩) H.seen.length H.seen.length)) (w.heap.size+2) (.slice (some ⟨g2,0,none⟩) H.roots.length H.roots.length) H.roots):=row_ch (S:=[w.heap.size]) (own_below HO2.out HB.out) (one_ch _ _ _ _) (fun j hj=>by have:=(blk_lt HO2.out j hj).1;simp;omega)
 have HD24:Hid (g2<W3.heap.size):=(blk_lt HO02.out g2 (List.mem_singleton.2 rfl)).2
 have HO3:Hid (rows.Own (w14.setCell ⟨w.heap.size,7,none⟩ (.slice (some ⟨W3.heap.size,0,none⟩) H.seen.length H.seen.length)) (w.heap.size+2) (.slice (some ⟨g3,0,none⟩) H.mourned.length H.mourned.length) H.mourned):=row_ch (S:=[w.heap.size]) (own_below HO3.out HB.out) (one_ch _ _ _ _) (fun j hj=>by have:=(blk_lt HO3.out j hj).1;simp;omega)
 have HD34:Hid (g3<W3.heap.size):=(blk_lt HO03.out g3 (List.mem_singleton.2 rfl)).2
 clear HF HB z0 z1 z2 z3 z4 z5 z6 z7 z8 HS3 f7
 generalize w14.setCell ⟨w.heap.size,7,none⟩ (.slice (some ⟨W3.heap.size,0,none⟩) H.seen.length H.seen.length)=W4 at *
 generalize W3.heap.size=g4 at *
 have HO01:Hid _:=HO1.out
 have HO02:Hid _:=HO2.out
 have HO03:Hid _:=HO3.out
 have HO04:Hid _:=HO4.out
 obtain⟨⟨z0,z1,z2,z3,z4⟩,⟨z5,z6,z7,z8⟩,_⟩:=nine_cells HS4.out.n0
 obtain⟨⟨y0,y1,y2,y3,y4⟩,⟨y5,y6,y7,y8⟩,yf⟩:=nine_cells HS4.out.n1
 have f0:=yf 0
 have f1:=yf 1
 have f2:=yf 2
 have f3:=yf 3
 have f4:=yf 4
 have f5:=yf 5
 have f6:=yf 6
 have f7:=yf 7
 have f8:=yf 8
 clear yf
 have HB4:Hid _:=HS4.out.below
 have HN1:Hid _:=HS4.out.n1
 clear HS4
 go_wp2_with fail
 refine bodyPost_ret (res_heap rfl rfl (nine_sets HN1.out _ _ _ _ _ _ _ _ _)) rfl ⟨_,_,_,_,rfl,⟨⟨?_,?_,?_,?_⟩,?_⟩,nine_belows HB4.out (by omega) _ _ _ _ _ _ _ _ _⟩
 ·exact own_base (row_ch (S:=[w.heap.size+1]) HO1.out (nine_other _ _ _ _ _ _ _ _ _) (fun j hj=>by have:=(blk_lt HO1.out j hj).1;simp;omega)) (by omega)
 ·exact own_base (row_ch (S:=[w.heap.size+1]) HO2.out (nine_other _ _ _ _ _ _ _ _ _) (fun j hj=>by have:=(blk_lt HO2.out j hj).1;simp;omega)) (by omega)
 ·exact own_base (row_ch (S:=[w.heap.size+1]) HO3.out (nine_other _ _ _ _ _ _ _ _ _) (fun j hj=>by have:=(blk_lt HO3.out j hj).1;simp;omega)) (by omega)
 ·exact own_base (row_ch (S:=[w.heap.size+1]) HO4.out (nine_other _ _ _ _ _ _ _ _ _) (fun j hj=>by have:=(blk_lt HO4.out j hj).1;simp;omega)) (by omega)
 ·have q12:=HD12.out
  have q13:=HD13.out
  have q14:=HD14.out
  have q23:=HD23.out
  have q24:=HD24.out
  have q34:=HD34.out
  simp[hblk,blk,Value.ownBlock]
  omega
end Go.Proofs.YtemlagfaaibenaaGreat.hp
