/-
  Chapter 15 as the program has it: what is kept.
  Made from the template SwpI1 (mkswpi1.py, out of NilI2).
-/
import Derived.Test.YtocidankimefpaaGreatDoorM22
import Derived.Test.YtocidankimefpaaGreatDoorM25
import Derived.Test.YtocidankimefpaaGreatDoorM26
import Derived.Deep.RegionLaw
import Derived.BigQuiet
namespace Go.Proofs.YtocidankimefpaaGreatDoor.hp
open Go.RowKit rows heads words walks
set_option maxRecDepth 100000
set_option linter.unusedVariables false
set_option linter.unusedSimpArgs false
structure Glob (w:World) (pN:Addr):Prop where
 kept:w.cell? ⟨1,0,none⟩=some (.iface 240 (.pointer (some pN)))
theorem Glob.below {w V:World} {pN:Addr} (h:Glob w pN) (hb:Below w.heap.size w V):Glob V pN:=
 ⟨(hb.cell (p:=⟨1,0,none⟩) (World.block_lt_of_cell? _ _ h.kept)).trans h.kept⟩
abbrev refV (n:Int) (p:Addr):Value:=.iface 83 (.agg #[.int .i64 n,.iface 240 (.pointer (some p))])
theorem lost_no {H:Hp} {L:List Int} {x:Int} (h:isA (fol H x)=false):lostW H L x=false:=by unfold lostW tgt;rw[if_neg (by rw[h];decide)]
theorem lost_in {H:Hp} {L:List Int} {x:Int} (h:isA (fol H x)=true) (hi:av (fol H x) ∈ L):lostW H L x=false:=by unfold lostW tgt;rw[if_pos h];simp[hi]
theorem lost_out {H:Hp} {L:List Int} {x:Int} (h:isA (fol H x)=true) (hi:av (fol H x) ∉ L):lostW H L x=true:=by unfold lostW tgt;rw[if_pos h];simp[hi]
def keptV (H:Hp) (L:List Int) (x n:Int) (p:Addr):Value:=if lostW H L x=true then refV n p else .nilIface
set_option maxHeartbeats 16000000 in
theorem keptAt_any {w:World} {b off c1 c2 c3 c4 c5:Nat} {a2 a3 a4 a5:Option Addr} {H:Hp} {ps L:List Int} {ds:List Pd} {sl:Pd→List Int} (hx:IntsAt w (.slice (some ⟨b,off,none⟩) H.row.length c1) H.row) (hv:RoomsAt w (.slice a5 ds.length c5) ds sl) (hF:FolP H ps ds sl) (hr:AllI H.row) {pN:Addr} (hG:Glob w pN) (up:Int) {la:Option Addr} {lc:Nat} (hL:IntsAt w (.slice la L.length lc) L) (hri:Rising L) (hll:L.length≤1000) {q:Nat} (hq:q<H.row.length) (hq2:H.row.length≤1000) (hw:wordIn H ps (H.row.getD q 0)=true) :
    Calls Tryz.prog 75 #[hov H (.slice (some ⟨b,off,none⟩) H.row.length c1) (.slice a2 H.roots.length c2) (.slice a3 H.mourned.length c3) (.slice a4 H.seen.length c4) up (.slice a5 ds.length c5),.int .i64 (q:Int),.agg #[.slice la L.length lc]] w fun e w'=>e = .returned (keptV H L (H.row.getD q 0) (q:Int) pN)∧Below w.heap.size w w':=by
 have B0:Below w.heap.size w (w.alloc (hob H (.slice (some ⟨b,off,none⟩) H.row.length c1) (.slice a2 H.roots.length c2) (.slice a3 H.mourned.length c3) (.slice a4 H.seen.length c4) up (.slice a5 ds.length c5))):=(Below.refl _ _).alloc (Nat.le_refl _) _
 have B1:=B0.alloc B0.size (stb (.slice la L.length lc))
 have HALL:Hid (∃X,X=(w.alloc (hob H (.slice (some ⟨b,off,none⟩) H.row.length c1) (.slice a2 H.roots.length c2) (.slice a3 H.mourned.length c3) (.slice a4 H.seen.length c4) up (.slice a5 ds.length c5))).alloc (stb (.slice la L.length lc))∧X.heap[w.heap.size]? = some (hob H (.slice (some ⟨b,off,none⟩) H.row.length c1) (.slice a2 H.roots.length c2) (.slice a3 H.mourned.length c3) (.slice a4 H.seen.length c4) up (.slice a5 ds.length c5))∧X.heap[w.heap.size+1]? = some (stb (.slice la L.length lc))∧Below w.heap.size w X):=⟨_,rfl,heap_alloc2_old _ _ _,heap_alloc2_new _ _ _,B1⟩
 have hbx:I64 (H.row.getD q 0):=by rw[List.getD_eq_getElem?_getD,List.getElem?_eq_getElem hq];exact hr _ (List.getElem_mem hq)
 have HST:Hid (∀V,Below w.heap.size w V→Calls Tryz.prog 117 #[rmv up (.slice a5 ds.length c5),.int .i64 (H.row.getD q 0)] V fun e w'=>(isA (fol H (H.row.getD q 0))=false→e = .returned (.tuple #[pdv pdD,.bool false]))∧(isA (fol H (H.row.getD q 0))=true→∃i,i<ds.length∧(ds.getD i pdD).pl=av (fol H (H.row.getD q 0))∧e = .returned (.tuple #[pdv (ds.getD i pdD),.bool true]))∧Below V.heap.size V w'):=fun V hV=>standing_any (hv.below hV) hF hr _ hw hbx
 have HRC:Hid (∀V,Below w.heap.size w V→V.cell? ⟨b,off+q,none⟩=some (.int .i64 (H.row.getD q 0))):=fun V hV=>by
  obtain⟨lb,lo,e,_,c⟩:=ints_cell (intsAt_below hx hV) hq
  obtain⟨rfl,rfl⟩:b=lb∧off=lo:=by simpa using e
  exact c
 have HSL:Hid _:=hv.slices
 have HHA:Hid (∀V C,Below w.heap.size w V→V.cell? ⟨C,0,none⟩=some (.slice la L.length lc)→∀x,Calls Tryz.prog 35 #[.pointer (some ⟨C,0,none⟩),.int .i64 x] V fun e w'=>e = .returned (.bool (decide (x ∈ L)))∧w'=V):=fun V C hV hc x=>hasM_any hc (intsAt_below hL hV) hri (by omega) x
 have HG:Hid _:=hG
 have hq':(q:Int)<(H.row.length:Int):=by omega
 have HN1:Hid (isA (fol H (H.row.getD q 0))=false→keptV H L (H.row.getD q 0) (q:Int) pN = .nilIface):=fun e=>by unfold keptV;rw[if_neg (by rw[lost_no e];decide)]
 have HN2:Hid (isA (fol H (H.row.getD q 0))=true→av (fol H (H.row.getD q 0)) ∈ L→keptV H L (H.row.getD q 0) (q:Int) pN = .nilIface):=fun e h=>by unfold keptV;rw[if_neg (by rw[lost_in e h];decide)]
 have HN3:Hid (isA (fol H (H.row.getD q 0))=true→av (fol H (H.row.getD q 0)) ∉ L→keptV H L (H.row.getD q 0) (q:Int) pN=refV (q:Int) pN):=fun e h=>by unfold keptV;rw[if_pos (lost_out e h)]
 clear B0 B1 hx hv hF hr hG hL hri hw hbx
 generalize keptV H L (H.row.getD q 0) (q:Int) pN=KV at *
 generalize H.row.getD q 0=x at *
 generalize fol H x=z at *
 go_enter Tryz.func75,Tryz.ntmps75
 go_upto_region 1 with fail
 obtain⟨X,hX,q0,q1,BX⟩:=HALL.out
 rw[←hX]
 clear hX HALL
 have HQ0:Hid _:=q0
 have HQ1:Hid _:=q1
 have HBX:Hid _:=BX
 obtain⟨⟨m0,m1,m2,m3,m4,m5,m6,m7,m8,m9,m10⟩,_⟩:=hob_cells q0
 have xr:=HRC.out X BX
 have HAF:Hid (∀V,Below X.heap.size X V→(V.cell? ⟨w.heap.size,2,none⟩=some (.slice (some ⟨b,off,none⟩) H.row.length c1)∧V.cell? ⟨w.heap.size,9,none⟩=some (.int .i64 up)∧V.cell? ⟨w.heap.size,10,none⟩=some (.slice a5 ds.length c5))∧V.cell? ⟨b,off+q,none⟩=some (.int .i64 x)):=fun V hV=>by
  obtain⟨⟨_,_,k2,_,_,_,_,_,_,k9,k10⟩,_⟩:=hob_cells ((hV.block _ (lt_of_block HQ0.out)).trans HQ0.out)
  exact⟨⟨k2,k9,k10⟩,HRC.out V (HBX.out.trans (hV.mono HBX.out.size))⟩
 have HSS:Hid (∀V,Below X.heap.size X V→∀x,Calls Tryz.prog 35 #[.pointer (some ⟨w.heap.size+1,0,none⟩),.int .i64 x] V fun e w'=>e = .returned (.bool (decide (x ∈ L)))∧w'=V):=fun V hV x=>HHA.out V _ (HBX.out.trans (hV.mono HBX.out.size)) (stb_cells ((hV.block _ (lt_of_block HQ1.out)).trans HQ1.out)).1 x
 have HGN:Hid (∀V,Below X.heap.size X V→V.cell? ⟨1,0,none⟩=some (.iface 240 (.pointer (some pN)))):=fun V hV=>(HG.out.below (HBX.out.trans (hV.mono HBX.out.size))).kept
 have HP0:Hid ((X.alloc (pdb pdD)).heap[X.heap.size]? = some (pdb pdD)):=heap_alloc_new X _
 have HBP:Hid (Below X.heap.size X (X.alloc (pdb pdD))):=(Below.refl _ _).alloc (Nat.le_refl _) _
 have xr':(X.alloc (pdb pdD)).cell? ⟨b,off+q,none⟩=some (.int .i64 x):=(HBP.out.cell (p:=⟨b,off+q,none⟩) (World.block_lt_of_cell? _ _ xr)).trans xr
 obtain⟨⟨m2',m9',m10'⟩,_⟩:=HAF.out _ HBP.out
 clear q0 q1 BX
 cases dA:isA z
 ·have HS0:Hid (∀V,Below w.heap.size w V→Calls Tryz.prog 117 #[rmv up (.slice a5 ds.length c5),.int .i64 x] V fun e w'=>e = .returned (.tuple #[pdv pdD,.bool false])∧Below V.heap.size V w'):=fun V hV=>(HST.out V hV).mono (fun e w' (hh:_∧_∧_)=>⟨hh.1 dA,hh.2.2⟩)
  have HE:Hid _:=HN1.out dA
  clear dA HN1 HN2 HN3 HST HHA HSL HSS
  go_region_law (first
   |(go_simp;go_at_call 117;refine Calls.mono (HS0.out _ HBX.out.drew) ?_;clear HS0;rintro e w1 ⟨rfl,b1⟩;have HB1:Hid (Below X.heap.size X w1):=⟨b1.os,b1.tape,b1.output,b1.size,b1.block⟩;have HBF:Hid (Below X.heap.size X (w1.alloc (pdb pdD))):=HB1.out.alloc HB1.out.size _;obtain⟨⟨n2,n9,n10⟩,n0⟩:=HAF.out w1 HB1.out;clear b1 HAF)
   |(go_simp;go_at_call 117;refine Calls.mono (HS0.out _ (HBX.out.alloc HBX.out.size _).drew) ?_;clear HS0;rintro e w1 ⟨rfl,b1⟩;have HB2:Hid (Below (X.alloc (pdb pdD)).heap.size (X.alloc (pdb pdD)) w1):=⟨b1.os,b1.tape,b1.output,b1.size,b1.block⟩;have HB1:Hid (Below X.heap.size X w1):=HBP.out.trans (HB2.out.mono HBP.out.size);obtain⟨⟨n2,n9,n10⟩,n0⟩:=HAF.out w1 HB1.out;have q6:=(HB2.out.block _ (lt_of_block HP0.out)).trans HP0.out;obtain⟨⟨g0,g1,g2,g3,g4,g5,g6,g7⟩,f0,f1,f2,f3,f4,f5,f6,f7⟩:=pdb_cells q6;have HBF:Hid (Below X.heap.size X (pdSet w1 X.heap.size pdD)):=pdb_below HB1.out (Nat.le_refl _) pdD;clear b1 HAF q6))
  all_goals go_wp2_with fail
  all_goals go_ret
  all_goals exact⟨by rw[HE.out];first|done|rfl,HBX.out.trans (HBF.out.mono HBX.out.size)⟩
 ·have HS0:Hid (∀V,Below w.heap.size w V→Calls Tryz.prog 117 #[rmv up (.slice a5 ds.length c5),.int .i64 x] V fun e w'=>(∃ds' df dc dh dp dm sa sn sc,e = .returned (.tuple #[pdv ⟨ds',df,dc,dh,dp,dm,.slice sa sn sc,av z⟩,.bool true]))∧Below V.heap.size V w'):=fun V hV=>(HST.out V hV).mono (fun e w' (hh:_∧_∧_)=>by
    obtain⟨i,hi,hpl,he⟩:=hh.2.1 dA
    obtain⟨sa,sn,sc,hsv⟩:=HSL.out _ (mem_getDP hi)
    obtain⟨d,hd⟩:∃d,ds.getD i pdD=d:=⟨_,rfl⟩
    rw[hd]at hsv hpl he
    obtain⟨ds',df,dc,dh,dp,dm,du,dl⟩:=d
    simp only at hsv hpl
    subst hsv hpl
    exact⟨⟨_,_,_,_,_,_,_,_,_,he⟩,hh.2.2⟩)
  have HE2:Hid _:=HN2.out dA
  have HE3:Hid _:=HN3.out dA
  clear dA HN1 HN2 HN3 HST HHA HSL
  generalize av z=az at *
  by_cases hin:az ∈ L
  ·have HE:Hid _:=HE2.out hin
   have HSX:Hid (∀V,Below X.heap.size X V→Calls Tryz.prog 35 #[.pointer (some ⟨w.heap.size+1,0,none⟩),.int .i64 az] V fun e w'=>e = .returned (.bool true)∧w'=V):=fun V hV=>by
    have:=HSS.out V hV az
    rwa [decide_eq_true hin]at this
   clear HE2 HE3 hin HSS
   go_region_law (first
    |(go_simp;go_at_call 117;refine Calls.mono (HS0.out _ HBX.out.drew) ?_;clear HS0;rintro e w1 ⟨⟨ds',df,dc,dh,dp,dm,sa,sn,sc,rfl⟩,b1⟩;have HB1:Hid (Below X.heap.size X w1):=⟨b1.os,b1.tape,b1.output,b1.size,b1.block⟩;have HBF:Hid (Below X.heap.size X (w1.alloc (pdb ⟨ds',df,dc,dh,dp,dm,.slice sa sn sc,az⟩))):=HB1.out.alloc HB1.out.size _;obtain⟨⟨n2,n9,n10⟩,n0⟩:=HAF.out w1 HB1.out;have HC:=HSX.out _ HBF.out;clear b1 HAF HSX)
    |(go_simp;go_at_call 117;refine Calls.mono (HS0.out _ (HBX.out.alloc HBX.out.size _).drew) ?_;clear HS0;rintro e w1 ⟨⟨ds',df,dc,dh,dp,dm,sa,sn,sc,rfl⟩,b1⟩;have HB2:Hid (Below (X.alloc (pdb pdD)).heap.size (X.alloc (pdb pdD)) w1):=⟨b1.os,b1.tape,b1.output,b1.size,b1.block⟩;have HB1:Hid (Below X.heap.size X w1):=HBP.out.trans (HB2.out.mono HBP.out.size);obtain⟨⟨n2,n9,n10⟩,n0⟩:=HAF.out w1 HB1.out;have q6:=(HB2.out.block _ (lt_of_block HP0.out)).trans HP0.out;obtain⟨⟨g0,g1,g2,g3,g4,g5,g6,g7⟩,f0,f1,f2,f3,f4,f5,f6,f7⟩:=pdb_cells q6;have HBF:Hid (Below X.heap.size X (pdSet w1 X.heap.size ⟨ds',df,dc,dh,dp,dm,.slice sa sn sc,az⟩)):=pdb_below HB1.out (Nat.le_refl _) _;have HC:=HSX.out _ HBF.out;clear b1 HAF q6 HSX))
   all_goals go_wp2_with (go_at_call 35;refine HC.mono ?_;clear HC;rintro e w4 ⟨rfl,hw4⟩;rw[hw4];clear hw4 w4)
   all_goals go_ret
   all_goals exact⟨by rw[HE.out];first|done|rfl,HBX.out.trans (HBF.out.mono HBX.out.size)⟩
  ·have HE:Hid _:=HE3.out hin
   have HSX:Hid (∀V,Below X.heap.size X V→Calls Tryz.prog 35 #[.pointer (some ⟨w.heap.size+1,0,none⟩),.int .i64 az] V fun e w'=>e = .returned (.bool false)∧w'=V):=fun V hV=>by
    have:=HSS.out V hV az
    rwa [decide_eq_false hin]at this
   clear HE2 HE3 hin HSS
   go_region_law (first
    |(go_simp;go_at_call 117;refine Calls.mono (HS0.out _ HBX.out.drew) ?_;clear HS0;rintro e w1 ⟨⟨ds',df,dc,dh,dp,dm,sa,sn,sc,rfl⟩,b1⟩;have HB1:Hid (Below X.heap.size X w1):=⟨b1.os,b1.tape,b1.output,b1.size,b1.block⟩;have HBF:Hid (Below X.heap.size X (w1.alloc (pdb ⟨ds',df,dc,dh,dp,dm,.slice sa sn sc,az⟩))):=HB1.out.alloc HB1.out.size _;obtain⟨⟨n2,n9,n10⟩,n0⟩:=HAF.out w1 HB1.out;have HC:=HSX.out _ HBF.out;have gn:=HGN.out _ HBF.out;clear b1 HAF HSX)
    |(go_simp;go_at_call 117;refine Calls.mono (HS0.out _ (HBX.out.alloc HBX.out.size _).drew) ?_;clear HS0;rintro e w1 ⟨⟨ds',df,dc,dh,dp,dm,sa,sn,sc,rfl⟩,b1⟩;have HB2:Hid (Below (X.alloc (pdb pdD)).heap.size (X.alloc (pdb pdD)) w1):=⟨b1.os,b1.tape,b1.output,b1.size,b1.block⟩;have HB1:Hid (Below X.heap.size X w1):=HBP.out.trans (HB2.out.mono HBP.out.size);obtain⟨⟨n2,n9,n10⟩,n0⟩:=HAF.out w1 HB1.out;have q6:=(HB2.out.block _ (lt_of_block HP0.out)).trans HP0.out;obtain⟨⟨g0,g1,g2,g3,g4,g5,g6,g7⟩,f0,f1,f2,f3,f4,f5,f6,f7⟩:=pdb_cells q6;have HBF:Hid (Below X.heap.size X (pdSet w1 X.heap.size ⟨ds',df,dc,dh,dp,dm,.slice sa sn sc,az⟩)):=pdb_below HB1.out (Nat.le_refl _) _;have HC:=HSX.out _ HBF.out;have gn:=HGN.out _ HBF.out;unfold pdSet at gn;clear b1 HAF q6 HSX))
   all_goals go_wp2_with (go_at_call 35;refine HC.mono ?_;clear HC;rintro e w4 ⟨rfl,hw4⟩;rw[hw4];clear hw4 w4)
   all_goals go_ret
   all_goals exact⟨by rw[HE.out];first|done|rfl,HBX.out.trans (HBF.out.mono HBX.out.size)⟩
end Go.Proofs.YtocidankimefpaaGreatDoor.hp
