/-
  Chapter 10 as the program has it: a list followed, and what is seen told anew. Chapter 10 as the specification has it: following in a heap that is partly made straight. Chapter 10 as the specification has it: a heap of the call's own made straight. Chapter 18 as the program has it: what is seen, tol
-/
import Derived.Test.YtemlagfaaibenaaGreatM21
import Derived.Test.YtemlagfaaibenaaGreatM2
import Derived.Test.YtemlagfaaibenaaGreatM18
import Derived.Test.YtemlagfaaibenaaGreatM19
import Derived.Test.YtemlagfaaibenaaGreatM12
import Derived.Deep.RegionLaw
namespace Go.Proofs.YtemlagfaaibenaaGreat.hp
open Go.RowKit rows heads words walks
set_option maxRecDepth 100000
set_option linter.unusedVariables false
set_option linter.unusedSimpArgs false
end Go.Proofs.YtemlagfaaibenaaGreat.hp
namespace Go.Proofs.YtemlagfaaibenaaGreat.hp
open Go.RowKit rows heads words walks region
set_option maxRecDepth 100000
set_option linter.unusedVariables false
set_option linter.unusedSimpArgs false
theorem blk_of (g n c:Nat):blk (.slice (some ⟨g,0,none⟩) n c)=[g]:=rfl
end Go.Proofs.YtemlagfaaibenaaGreat.hp
namespace Go.Proofs.YtemlagfaaibenaaGreat.hp
open Go.RowKit rows heads words walks region Go.Maps
set_option maxRecDepth 100000
set_option linter.unusedVariables false
set_option linter.unusedSimpArgs false
theorem cs_cell {w:World} {C:Nat} {cs:Array Value} {t:TypeId} (h:w.heap[C]? = some (.cells cs t (0,0))) {k:Nat} {v:Value} (hk:cs[k]? = some v):w.cell? ⟨C,k,none⟩=some v:=by
 simp[World.cell?, h,hk]
theorem cs_froz {w:World} {C:Nat} {cs:Array Value} {t:TypeId} (h:w.heap[C]? = some (.cells cs t (0,0))) (k:Nat):w.frozen? ⟨C,k,none⟩=false:=by
 simp[World.frozen?, h]
set_option maxHeartbeats 16000000 in
theorem seeAnewC_any {w:World} {C:Nat} {cs:Array Value} {t:TypeId} {a1 a2 a3 a4:Option Addr} {c1 c2 c3 c4:Nat} {H:Hp} (hT:w.heap[C]? = some (.cells cs t (0,0)))
    (k0:cs[11]? = some (.int .i64 H.half)) (k1:cs[12]? = some (.int .i64 H.old)) (k2:cs[13]? = some (.slice a1 H.row.length c1)) (k3:cs[14]? = some (.int .i64 H.side)) (k4:cs[15]? = some (.int .i64 H.top)) (k5:cs[16]? = some (.slice a2 H.roots.length c2)) (k6:cs[17]? = some (.slice a3 H.mourned.length c3)) (k7:cs[18]? = some (.slice a4 H.seen.length c4)) (k8:cs[19]? = some (.int .i64 H.seed))
    (h:HpAt w (.slice a1 H.row.length c1) (.slice a2 H.roots.length c2) (.slice a3 H.mourned.length c3) (.slice a4 H.seen.length c4) H) (hn:numB H=true) (hr:roomB a1 H=true) (ha:AllI H.row) :
    Calls Tryz.prog 35 #[.pointer (some ⟨C,11,none⟩)] w fun e w'=>∃u,e = .returned (.tuple #[])∧rows.Own w' w.heap.size u (seenL H)∧w'.heap[C]? = some (.cells (cs.setIfInBounds 18 u) t (0,0))∧Ch [C] w w':=by
 have RO:=(roomsOf_any h hn ha).mono (fun e w' (hh:_∧_∧_)=>(⟨hh.2.1 hr,hh.2.2⟩:(∃v',e = .returned (.tuple #[.agg #[.int .i64 (2*H.half),v'],.bool true])∧OwnP w' w.heap.size v' (objsP a1 H))∧Below w.heap.size w w'))
 have HMS:Hid (∀V a5 c5,Below w.heap.size w V→PdsAt V (.slice a5 (objsP a1 H).length c5) (objsP a1 H)→Calls Tryz.prog 60 #[rmv (2*H.half) (.slice a5 (objsP a1 H).length c5)] V fun e w'=>∃u,e = .returned u∧rows.Own w' V.heap.size u (seenL H)∧Below V.heap.size V w'):=fun V a5 c5 hV hp=>by
  have r:=roomsAt_of (intsAt_below h.1 hV) hn hr ha hp
  have:=mustSee_any (up:=2*H.half) r.pds r.slices (Nat.le_trans r.len (by decide)) r.slots
  rwa [seen_same hn hr]at this
 have HT:Hid _:=hT
 have sP:=lt_of_block hT
 have HK7:Hid _:=k7
 have z0:=cs_cell hT k0
 have z1:=cs_cell hT k1
 have z2:=cs_cell hT k2
 have z3:=cs_cell hT k3
 have z4:=cs_cell hT k4
 have z5:=cs_cell hT k5
 have z6:=cs_cell hT k6
 have z7:=cs_cell hT k7
 have z8:=cs_cell hT k8
 clear hT h hn hr ha k0 k1 k2 k3 k4 k5 k6 k7 k8
 go_enter Tryz.func35,Tryz.ntmps35
 go_upto_region 1 with (go_at_call 74;refine RO.mono ?_;clear RO z0 z1 z2 z3 z4 z5 z6 z7 z8;rintro e w1 ⟨⟨v1,rfl,O1⟩,b1⟩;have HB1:Hid _:=b1;have HO1:Hid _:=ownP_at O1;obtain⟨a5,c5,rfl⟩:=pds_slice (ownP_at O1);clear b1 O1)
 have B2:Below w1.heap.size w1 (w1.alloc (rmb (2*H.half) (.slice a5 (objsP a1 H).length c5))):=(Below.refl _ _).alloc (Nat.le_refl _) _
 have HB2:Hid _:=HB1.out.trans (B2.mono HB1.out.size)
 obtain⟨⟨r0,r1⟩,_⟩:=rmb_cells (heap_alloc_new w1 (rmb (2*H.half) (.slice a5 (objsP a1 H).length c5)))
 have MS:=HMS.out _ a5 c5 HB2.out (pdsAt_below HO1.out B2)
 clear B2 HO1 HMS HB1
 generalize w1.alloc (rmb (2*H.half) (.slice a5 (objsP a1 H).length c5))=Y at *
 go_wp2_with (go_at_call 60;refine MS.mono ?_;clear MS;rintro e w3 ⟨u3,rfl,O3,b3⟩;have B3:=HB2.out.trans (b3.mono HB2.out.size);have T3:=(B3.block _ sP).trans HT.out;have z7:=cs_cell T3 HK7.out;have f7:=cs_froz T3 18;have HO3:Hid _:=own_base O3 HB2.out.size;have HT3:Hid _:=T3;have HB3:Hid _:=B3;obtain⟨ua,un,uc,rfl⟩:=ints_slice (own_ints O3);clear O3 b3 B3 T3)
 refine bodyPost_end (results_none rfl _ _ _) rfl ⟨_,rfl,?_,cells_setCell HT3.out 18 _,(ch_below HB3.out).trans (one_ch _ _ _ _)⟩
 exact row_ch (S:=[C]) HO3.out (one_ch _ _ _ _) (fun j hj=>by have:=(blk_lt HO3.out j hj).1;simp;omega)
end Go.Proofs.YtemlagfaaibenaaGreat.hp
