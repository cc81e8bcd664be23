/-
  Chapter 13 as the program has it: from one object on.
  Made from the template MarkI3.
-/
import Derived.Test.YtocidankimefpaaGreatDoorMarkI2
import Derived.Test.YtocidankimefpaaGreatDoorM27
import Derived.Test.YtocidankimefpaaGreatDoorM3
import Derived.Deep.Cut
import Derived.Deep.CutRange
namespace Go.Proofs.YtocidankimefpaaGreatDoor.hp
open Go.RowKit rows heads words walks Go.Maps
set_option maxRecDepth 100000
set_option linter.unusedVariables false
set_option linter.unusedSimpArgs false
theorem MS.apart {W0:World} {C mb base:Nat} {up:Int} {v:Value} {ok:Int→Prop} {m:Mm} {s:Nat} {W:World} (h:MS W0 C mb base up v ok m s W) {a:Int} (ha:a ∈ m.M):∀k ∈ blk (m.f a),¬m.fs C mb k:=by
 intro k hk hc
 have hb:=blk_lt (h.wown a) k hk
 have:=h.c1
 have:=h.m1
 rcases hc with e|e|e|⟨q,hq,e⟩
 ·omega
 ·omega
 ·exact h.am a k hk e
 ·exact h.ap a q (fun e'=>hq (e'▸ha)) k hk e
theorem chunk_fmt {xs:List Int} {j:Nat} (h:chunk xs j≠0) (h6:uF (xs.getD j 0)≠6) (h7:uF (xs.getD j 0)≠7):(uF (xs.getD j 0)=0∨uF (xs.getD j 0)=1∨uF (xs.getD j 0)=2)∧(uF (xs.getD j 0)=2→1≤uS (xs.getD j 0))∧0≤uS (xs.getD j 0)∧uS (xs.getD j 0)≤20:=by
 unfold chunk at h
 split at h
 ·rename_i h0
  rw[Bool.and_eq_true]at h0
  have h1:=h0.1
  rw[ok_eq,Bool.and_eq_true]at h1
  have hu:uS (xs.getD j 0)=bS (xs.getD j 0)∧uF (xs.getD j 0)=bF (xs.getD j 0):=by
   unfold uS uF
   rw[if_pos h0.1,if_pos h0.1]
   exact⟨rfl,rfl⟩
  rw[hu.2]at h6 h7
  rw[hu.1,hu.2]
  have hh:=h1.2
  have hb:=hok_true hh
  unfold hok at hh
  rw[if_neg h6]at hh
  simp only[Bool.and_eq_true,Bool.or_eq_true,decide_eq_true_eq,beq_iff_eq]at hh
  omega
 ·exact absurd rfl h
theorem slots_here {w:World} {b off rc:Nat} {xs:List Int} (hx:IntsAt w (.slice (some ⟨b,off,none⟩) xs.length rc) xs) (hl:xs.length≤1000) {j sn:Nat} (hc:chunk xs j≠0) (h6:uF (xs.getD j 0)≠6) (h7:uF (xs.getD j 0)≠7) (hs:uS (xs.getD j 0)=(sn:Int)) :
    IntsAt w (piece (some ⟨b,off+j,none⟩) 1 sn) ((xs.drop (j+1)).take sn):=by
 have q:=chunk_fits hc h6
 by_cases h0:sn=0
 ·subst h0
  rw[piece_none,List.take_zero]
  exact⟨some ⟨b,off+j,none⟩,0,rfl,by simp,by decide,fun _=>rfl,fun h=>by simp at h⟩
 ·rw[piece_at b (off+j) 1 _ (by omega)]
  have:=piece_is hx (by omega) (j+1) sn (by omega)
  rw[piece_at b off (j+1) _ (by omega)]at this
  rwa [show off+j+1=off+(j+1) by omega]
theorem slotsOf_nat {H:Hp} {j sn:Nat} (h6:uF (H.row.getD j 0)≠6) (h7:uF (H.row.getD j 0)≠7) (hs:uS (H.row.getD j 0)=(sn:Int)):slotsOf H (j:Int)=(H.row.drop (j+1)).take sn:=by
 unfold slotsOf cnS
 rw[Int.toNat_natCast,if_neg h7,if_neg h6,hs,Int.toNat_natCast]
set_option maxHeartbeats 32000000 in
theorem from_any {W0:World} {C mb base:Nat} {up:Int} {a:Option Addr} {cap:Nat} {H:Hp} {ps:List Int} {ds:List Pd} {sl:Pd→List Int} (hv:RoomsAt W0 (.slice a ds.length cap) ds sl) (hF:FolP H ps ds sl) (hr:AllI H.row) {b off rc:Nat} (hx:IntsAt W0 (.slice (some ⟨b,off,none⟩) H.row.length rc) H.row) (hl:H.row.length≤1000) {N:Nat} (IH:∀n,n<N→MarkAll W0 C mb base up (.slice a ds.length cap) H ps n)
    {W:World} {m:Mm} {s:Nat} {Q A:Int→Prop} (hN:600-m.M.length≤N) (hS:MS W0 C mb base up (.slice a ds.length cap) (okW H ps) m s W) (hI:MI H m.M m.Wt Q A) {j:Nat} (hc:chunk H.row j≠0) (h6:uF (H.row.getD j 0)≠6) (h7:uF (H.row.getD j 0)≠7) (hjp:(j:Int) ∈ ps) (hm:Mk H j) (hn:(j:Int) ∉ m.M) :
    Calls Tryz.prog 118 #[.pointer (some ⟨C,0,none⟩),pdv (pdOf (some ⟨b,off,none⟩) H.row j)] W fun e w'=>e = .returned (.tuple #[])∧∃m',MR W0 C mb base up (.slice a ds.length cap) (okW H ps) s m W m' w'∧MI H m'.M m'.Wt Q A∧(j:Int) ∈ m'.M:=by
 obtain⟨hf,h2s,hs0,hs20⟩:=chunk_fmt hc h6 h7
 have q:=chunk_fits hc h6
 obtain⟨sn,hsn⟩:∃sn:Nat,uS (H.row.getD j 0)=(sn:Int):=⟨(uS (H.row.getD j 0)).toNat,by omega⟩
 have hso:=slotsOf_nat h6 h7 hsn
 have hjl:j≤1000:=by omega
 have SI0:=slots_here hx hl hc h6 h7 hsn
 have hcn:cnP (pdOf (some ⟨b,off,none⟩) H.row j)=sn:=by rw[cnP_of,if_neg h7,hsn,Int.toNat_natCast]
 have SLA:∀V,Calls Tryz.prog 71 _ V _:=fun V=>slots_at (w:=V) (b:=b) (off:=off) hl hc h6
 rw[hcn]at SLA
 have epd:pdOf (some ⟨b,off,none⟩) H.row j=⟨uS (H.row.getD j 0),uF (H.row.getD j 0),uC (H.row.getD j 0),uH (H.row.getD j 0),uP (H.row.getD j 0),uM (H.row.getD j 0),.slice (some ⟨b,off+j,none⟩) (chunk H.row j).toNat (chunk H.row j).toNat,j⟩:=by
  unfold pdOf
  rw[piece_at b off j _ (by omega)]
 rw[epd]
 have hfm:fm H (j:Int)=uF (H.row.getD j 0):=by unfold fm;rw[Int.toNat_natCast]
 have hkp:keepsM H (j:Int)=if uF (H.row.getD j 0)=0 then (H.row.drop (j+1)).take sn else []:=by unfold keepsM;rw[hfm,hso]
 have hre:restM H (j:Int)=if uF (H.row.getD j 0)=2 then ((H.row.drop (j+1)).take sn).drop 1 else []:=by unfold restM;rw[hfm,hso]
 have hsl20:((H.row.drop (j+1)).take sn).length=sn:=by rw[List.length_take,List.length_drop];omega
 have hall:∀x ∈ (H.row.drop (j+1)).take sn,okW H ps x:=fun x hx'=>⟨hF.rt.slot_in hjp (by rw[hso];exact hx'),hr x (List.mem_of_mem_drop (List.mem_of_mem_take hx'))⟩
 have hkS:goesM H (Mk H) (keepsM H (j:Int)):=((mk_closed H).2 j hm).1
 have hji:I64 (j:Int):=⟨by omega,by omega⟩
 have hsn20:sn≤20:=by omega
 rw[hsn]at SLA h2s ⊢
 clear hsn hcn epd hs0 hs20
 generalize uF (H.row.getD j 0)=f at *
 generalize uC (H.row.getD j 0)=c at *
 generalize uH (H.row.getD j 0)=g at *
 generalize uP (H.row.getD j 0)=pb at *
 generalize uM (H.row.getD j 0)=mk at *
 generalize (chunk H.row j).toNat=cn at *
 obtain⟨T,hT⟩:∃T,(H.row.drop (j+1)).take sn=T:=⟨_,rfl⟩
 rw[hT]at SI0 hkp hre hsl20 hall
 have HBX:Hid (Below W.heap.size W (W.alloc (pdb ⟨(sn:Int),f,c,g,pb,mk,.slice (some ⟨b,off+j,none⟩) cn cn,(j:Int)⟩))):=(Below.refl _ _).alloc (Nat.le_refl _) _
 have HQX:Hid ((W.alloc (pdb ⟨(sn:Int),f,c,g,pb,mk,.slice (some ⟨b,off+j,none⟩) cn cn,(j:Int)⟩)).heap[W.heap.size]? = some (pdb ⟨(sn:Int),f,c,g,pb,mk,.slice (some ⟨b,off+j,none⟩) cn cn,(j:Int)⟩)):=heap_alloc_new W _
 have HSX:Hid _:=hS.below HBX.out
 have HIH:Hid (∀m':Mm,m.M.length<m'.M.length→m'.M.length≤500→MarkAll W0 C mb base up (.slice a ds.length cap) H ps (600-m'.M.length)):=fun m' h1 h2=>IH _ (by have:=hS.ml;omega)
 have HNF:Hid (¬m.fs C mb W.heap.size):=fun hc=>Nat.lt_irrefl _ (hS.fsLow hc).2
 have HLO:Hid (∀V s' m',MS W0 C mb base up (.slice a ds.length cap) (okW H ps) m' s' V→∀W',ChP (m'.fs C mb) V W'→Below W0.heap.size W0 W'):=fun V s' m' h W' hW'=>h.low.trans (below_chP hW' h.low.size (fun k hk=>(h.fsLow hk).1))
 have HI:Hid _:=hI
 have HM:Hid _:=hm
 have HN:Hid _:=hn
 have HV:Hid _:=hv
 have HF:Hid _:=hF
 have HR:Hid _:=hr
 have HALLT:Hid _:=hall
 have HSI:Hid (∀V,Below W0.heap.size W0 V→IntsAt V (piece (some ⟨b,off+j,none⟩) 1 sn) T):=fun V hV=>intsAt_below SI0 hV
 have HSA:Hid _:=SLA
 have HKP:Hid _:=hkp
 have HRE:Hid _:=hre
 have HKS:Hid _:=hkS
 have HTL:Hid _:=hsl20
 have HTS:Hid (slotsOf H (j:Int)=T):=hso.trans hT
 have H2S:Hid _:=h2s
 have HFM:Hid _:=hfm
 have HML:Hid _:=hS.ml
 have HJI:Hid _:=hji
 have hrl:∀(x:Int),(putI x m.M).length≤m.M.length+1:=fun x=>len_putI.2.1
 have HRL:Hid ((putI (j:Int) m.M).length≤500):=by
  show _≤_
  refine hF.rt.marks_len (rising_putI hI.rise) (fun x hx' => ?_)
  rcases mem_putI.1 hx' with rfl|hx'
  ·exact hm
  ·exact hI.snd x hx'
 clear hv hF hr hx hl IH hN hS hI hc h6 h7 hjp hm hn q hso SI0 SLA hkp hre hall hkS hT hsl20 h2s hfm hji hrl
 go_enter Tryz.func118,Tryz.ntmps118
 go_upto_region 1 with fail
 generalize W.alloc (pdb ⟨(sn:Int),f,c,g,pb,mk,.slice (some ⟨b,off+j,none⟩) cn cn,(j:Int)⟩)=X at *
 generalize hPw:W.heap.size=P at *
 have HPW:Hid (W.heap.size=P):=hPw
 clear hPw
 have HPX:Hid (∀V,ChP (m.fs C mb) X V→V.heap[P]? = some (pdb ⟨(sn:Int),f,c,g,pb,mk,.slice (some ⟨b,off+j,none⟩) cn cn,(j:Int)⟩)):=fun V hV=>(hV.block P (lt_of_block HQX.out) HNF.out).trans HQX.out
 clear HNF
 -- region 1: it comes to the set
 have BD:Below X.heap.size X X.drew:=(Below.refl _ _).drew
 have SD:=HSX.out.below BD
 have hml:=HML.out
 have AD:=addM_any SD.bz SD.blk' SD.mown (fun hk=>by have:=blk_lt SD.mown C hk;have:=SD.c1;omega) HI.out.rise (by omega) (j:Int)
 obtain⟨⟨x0,x1,x2,x3,x4,x5,x6,x7⟩,_⟩:=pdb_cells (HPX.out X.drew (chP_below BD))
 have HAD:Hid (∀w1,(∃v',w1.heap[C]? = some (mkb up (.slice a ds.length cap) v' mb)∧rows.Own w1 base v' (putI (j:Int) m.M)∧Ch (C :: blk m.vm) X.drew w1∧∀k ∈ blk v',k ∈ blk m.vm∨X.drew.heap.size≤k)→∃m1:Mm,MR W0 C mb base up (.slice a ds.length cap) (okW H ps) (s+1) m X m1 w1∧MI H m1.M m1.Wt (fun x=>(Q x∨x ∈ keepsM H j)∨x ∈ m1.Wt j) (fun p=>A p∨p=j)∧m.M.length<m1.M.length∧(j:Int) ∈ m1.M):=by
  rintro w1 ⟨v',e1,e2,e3,e4⟩
  exact⟨_,(SD.come HI.out.rise HN.out HRL.out e1 e2 e3 e4).ahead BD,HI.out.come HM.out,(by show _<(putI (j:Int) m.M).length;rw[len_put_new HI.out.rise HN.out];omega),mem_putI.2 (.inl rfl)⟩
 clear BD SD hml
 go_cut [] from 4 to 44 (fun wx=>∃m1:Mm,Hid (MR W0 C mb base up (.slice a ds.length cap) (okW H ps) (s+1) m X m1 wx)∧Hid (MI H m1.M m1.Wt (fun x=>(Q x∨x ∈ keepsM H j)∨x ∈ m1.Wt j) (fun p=>A p∨p=j))∧Hid (m.M.length<m1.M.length)∧Hid ((j:Int) ∈ m1.M))
 case first=>
  go_region_law (go_simp;go_at_call 157;refine AD.mono ?_;clear AD;rintro e w1 ⟨rfl,h1⟩;obtain⟨m1,k1,k2,k3,k4⟩:=HAD.out w1 h1;have K1:Hid _:=k1;have K2:Hid _:=k2;have K3:Hid _:=k3;have K4:Hid _:=k4;clear h1 k1 k2 k3 k4 HAD)
  all_goals go_wp2
  all_goals go_meet
  all_goals exact⟨m1,K1,K2,K3,K4⟩
 obtain⟨m1,HR1,HI1,HL1,HJ1⟩:=hcut
 obtain⟨w1,hw1⟩:∃w1,w1=wc:=⟨_,rfl⟩
 subst hw1
 clear AD HAD x0 x1 x2 x3 x4 x5 x6 x7 HI HSX HRL
 -- region 2: who waits for it
 have B1:Below w1.heap.size w1 w1.drew:=(Below.refl _ _).drew
 have S1:=HR1.out.ms.below B1
 obtain⟨⟨x0,x1,x2,x3,x4,x5,x6,x7⟩,_⟩:=pdb_cells (HPX.out w1 HR1.out.ch)
 obtain⟨⟨_,_,_,y3⟩,_⟩:=mkb_cells HR1.out.ms.blk'
 obtain⟨fa,fn,fc,hfv⟩:=ints_slice (own_ints (S1.wown j))
 have lk:=S1.lookup HJI.out
 have CM:=HIH.out m1 HL1.out S1.ml w1.drew m1 (s+1) _ _ (m1.f j) (m1.Wt j) (Nat.le_refl _) S1 HI1.out (S1.wok j) (fun x hx' a ha=>HI1.out.wsnd j x hx' HM.out a ha) (by have:=S1.wl j;have:=S1.ml;omega) (fun W' hW'=>own_ints (own_chP (S1.wown j) hW' (S1.apart HJ1.out)))
 rw[hfv]at lk CM
 have HCM:Hid (∀w2 m2,MR W0 C mb base up (.slice a ds.length cap) (okW H ps) (s+1) m1 w1.drew m2 w2→MR W0 C mb base up (.slice a ds.length cap) (okW H ps) (s+1) m X m2 w2∧m.M.length<m2.M.length∧(j:Int) ∈ m2.M):=fun w2 m2 mr=>⟨(HR1.out.below B1).trans mr,Nat.lt_of_lt_of_le HL1.out mr.ln,mr.le _ HJ1.out⟩
 clear B1 S1 hfv HR1 HI1 HL1 HJ1
 go_upto_region 2 with fail
 go_cut [] from 4 to 44 (fun wx=>∃m2:Mm,Hid (MR W0 C mb base up (.slice a ds.length cap) (okW H ps) (s+1) m X m2 wx)∧Hid (MI H m2.M m2.Wt (fun x=>Q x∨x ∈ keepsM H j) (fun p=>A p∨p=j))∧Hid (m.M.length<m2.M.length)∧Hid ((j:Int) ∈ m2.M))
 case first=>
  go_region_law (go_simp;go_at_call 69;refine CM.mono ?_;clear CM;rintro e w2 ⟨rfl,m2,mr,mi⟩;obtain⟨k1,k3,k4⟩:=HCM.out w2 m2 mr;have K1:Hid _:=k1;have K2:Hid _:=mi;have K3:Hid _:=k3;have K4:Hid _:=k4;clear mr mi k1 k3 k4 HCM)
  all_goals go_wp2
  all_goals go_meet
  all_goals exact⟨m2,K1,K2,K3,K4⟩
 obtain⟨m2,HR2,HI2,HL2,HJ2⟩:=hcut
 obtain⟨w2,hw2⟩:∃w2,w2=wc:=⟨_,rfl⟩
 subst hw2
 clear CM HCM lk x0 x1 x2 x3 x4 x5 x6 x7 y3
 -- region 3: what it keeps
 obtain⟨⟨x0,x1,x2,x3,x4,x5,x6,x7⟩,_⟩:=pdb_cells (HPX.out w2 HR2.out.ch)
 have HPC:Hid (∀V,Below w2.heap.size w2 V→V.heap[P]? = some (pdb ⟨(sn:Int),f,c,g,pb,mk,.slice (some ⟨b,off+j,none⟩) cn cn,(j:Int)⟩)):=fun V hV=>HPX.out V (HR2.out.ch.trans (chP_below (S:=fun _=>False) hV) (fun j hj=>hj.elim))
 have HCM:Hid (∀V lv,Below w2.heap.size w2 V→(∀V',Below W0.heap.size W0 V'→IntsAt V' lv (keepsM H j))→Calls Tryz.prog 69 #[.pointer (some ⟨C,0,none⟩),lv] V fun e w'=>e = .returned (.tuple #[])∧∃m3:Mm,MR W0 C mb base up (.slice a ds.length cap) (okW H ps) (s+1) m X m3 w'∧MI H m3.M m3.Wt Q (fun p=>A p∨p=j)∧m.M.length<m3.M.length∧(j:Int) ∈ m3.M):=fun V lv hV hlv=>by
  have SV:=HR2.out.ms.below hV
  refine (HIH.out m2 HL2.out SV.ml V m2 (s+1) _ _ lv (keepsM H j) (Nat.le_refl _) SV HI2.out (fun x hx' => ?_) HKS.out ?_ (fun W' hW'=>hlv W' (HLO.out V _ _ SV W' hW'))).mono ?_
  ·rw[HKP.out]at hx'
   split at hx'
   ·exact HALLT.out x hx'
   ·cases hx'
  ·rw[HKP.out]
   have:=HTL.out
   split
   ·omega
   ·simp
  ·rintro e w' ⟨rfl,m3,mr,mi⟩
   exact⟨rfl,m3,(HR2.out.below hV).trans mr,mi,Nat.lt_of_lt_of_le HL2.out mr.ln,mr.le _ HJ2.out⟩
 clear HR2 HI2 HL2 HJ2
 go_upto_region 3 with fail
 go_cut [] from 4 to 44 (fun wx=>∃m3:Mm,Hid (MR W0 C mb base up (.slice a ds.length cap) (okW H ps) (s+1) m X m3 wx)∧Hid (MI H m3.M m3.Wt Q (fun p=>A p∨p=j))∧Hid (m.M.length<m3.M.length)∧Hid ((j:Int) ∈ m3.M))
 case first=>
  have B2:Below w2.heap.size w2 w2.drew:=(Below.refl _ _).drew
  have SL0:=HSA.out w2.drew
  have HGO:Hid (∀V,Below w2.drew.heap.size w2.drew V→Below w2.heap.size w2 V):=fun V hV=>B2.trans (hV.mono B2.size)
  clear B2
  by_cases hf0:f=0
  ·subst hf0
   by_cases hsn0:sn=0
   ·subst hsn0
    have hpc:=piece_none (some ⟨b,off+j,none⟩) 1
    rw[hpc]at SL0
    have HST:Hid (∀V,Calls Tryz.prog 158 #[hv 0 0 c g pb mk] V fun e w'=>e = .returned (.int .i64 0)∧Below V.heap.size V w'):=fun V=>by
     refine (strongFrom_any _ _ _ _ _ _ V).mono ?_
     rintro e w' ⟨rfl,rfl⟩
     exact⟨by rfl,(Below.refl _ _).alloc (Nat.le_refl _) _⟩
    have HLV:Hid (∀V',Below W0.heap.size W0 V'→IntsAt V' (.slice (some ⟨b,off+j,none⟩) 0 0) (keepsM H j)):=fun V' hV'=>by
     rw[HKP.out,if_pos rfl,←hpc]
     exact HSI.out V' hV'
    have CMM:Hid (∀V,Below w2.heap.size w2 V→Calls Tryz.prog 69 #[.pointer (some ⟨C,0,none⟩),.slice (some ⟨b,off+j,none⟩) 0 0] V fun e w'=>e = .returned (.tuple #[])∧∃m3:Mm,MR W0 C mb base up (.slice a ds.length cap) (okW H ps) (s+1) m X m3 w'∧MI H m3.M m3.Wt Q (fun p=>A p∨p=j)∧m.M.length<m3.M.length∧(j:Int) ∈ m3.M):=fun V hV=>HCM.out V _ hV HLV.out
    simp only at x0 x1 x2 x3 x4 x5 x6 x7
    clear HCM HLV hpc HSI HSA HPX HLO HIH HKP HRE HKS HTL HTS H2S HFM HML HJI HALLT HV HF HR HM HN HBX HQX
    go_region_law (first
     |(go_simp;go_at_call 71;refine SL0.mono ?_;clear SL0 x0 x1 x2 x3 x4 x5 x6 x7;rintro e w4 ⟨rfl,b4⟩;have HB4:Hid (Below w2.heap.size w2 w4):=HGO.out w4 b4;obtain⟨⟨x0,x1,x2,x3,x4,x5,x6,x7⟩,_⟩:=pdb_cells (HPC.out w4 HB4.out);simp only at x0 x1 x2 x3 x4 x5 x6 x7;have STR:=HST.out w4;clear b4 HGO HST)
     |(go_simp;go_at_call 158;refine STR.mono ?_;clear STR x0 x1 x2 x3 x4 x5 x6 x7;rintro e w5 ⟨rfl,b5⟩;have HB5:Hid (Below w2.heap.size w2 w5):=HB4.out.trans (b5.mono HB4.out.size);obtain⟨⟨x0,x1,x2,x3,x4,x5,x6,x7⟩,_⟩:=pdb_cells (HPC.out w5 HB5.out);simp only at x0 x1 x2 x3 x4 x5 x6 x7;have CM:=CMM.out w5 HB5.out;clear b5 CMM)
     |(go_simp;go_at_call 69;refine CM.mono ?_;clear CM x0 x1 x2 x3 x4 x5 x6 x7;rintro e w6 ⟨rfl,m3,k1,k2,k3,k4⟩;have K1:Hid _:=k1;have K2:Hid _:=k2;have K3:Hid _:=k3;have K4:Hid _:=k4;clear k1 k2 k3 k4))
    all_goals go_wp2
    all_goals go_meet
    all_goals exact⟨m3,K1,K2,K3,K4⟩
   ·have hsn1:0<sn:=by omega
    have hpc:=piece_at b (off+j) 1 sn hsn1
    rw[hpc]at SL0
    have HST:Hid (∀V,Calls Tryz.prog 158 #[hv (sn:Int) 0 c g pb mk] V fun e w'=>e = .returned (.int .i64 0)∧Below V.heap.size V w'):=fun V=>by
     refine (strongFrom_any _ _ _ _ _ _ V).mono ?_
     rintro e w' ⟨rfl,rfl⟩
     exact⟨by rfl,(Below.refl _ _).alloc (Nat.le_refl _) _⟩
    have HLV:Hid (∀V',Below W0.heap.size W0 V'→IntsAt V' (.slice (some ⟨b,off+j+1,none⟩) sn sn) (keepsM H j)):=fun V' hV'=>by
     rw[HKP.out,if_pos rfl,←hpc]
     exact HSI.out V' hV'
    have CMM:Hid (∀V,Below w2.heap.size w2 V→Calls Tryz.prog 69 #[.pointer (some ⟨C,0,none⟩),.slice (some ⟨b,off+j+1,none⟩) sn sn] V fun e w'=>e = .returned (.tuple #[])∧∃m3:Mm,MR W0 C mb base up (.slice a ds.length cap) (okW H ps) (s+1) m X m3 w'∧MI H m3.M m3.Wt Q (fun p=>A p∨p=j)∧m.M.length<m3.M.length∧(j:Int) ∈ m3.M):=fun V hV=>HCM.out V _ hV HLV.out
    simp only at x0 x1 x2 x3 x4 x5 x6 x7
    clear HCM HLV hpc HSI HSA HPX HLO HIH HKP HRE HKS HTL HTS H2S HFM HML HJI HALLT HV HF HR HM HN HBX HQX
    go_region_law (first
     |(go_simp;go_at_call 71;refine SL0.mono ?_;clear SL0 x0 x1 x2 x3 x4 x5 x6 x7;rintro e w4 ⟨rfl,b4⟩;have HB4:Hid (Below w2.heap.size w2 w4):=HGO.out w4 b4;obtain⟨⟨x0,x1,x2,x3,x4,x5,x6,x7⟩,_⟩:=pdb_cells (HPC.out w4 HB4.out);simp only at x0 x1 x2 x3 x4 x5 x6 x7;have STR:=HST.out w4;clear b4 HGO HST)
     |(go_simp;go_at_call 158;refine STR.mono ?_;clear STR x0 x1 x2 x3 x4 x5 x6 x7;rintro e w5 ⟨rfl,b5⟩;have HB5:Hid (Below w2.heap.size w2 w5):=HB4.out.trans (b5.mono HB4.out.size);obtain⟨⟨x0,x1,x2,x3,x4,x5,x6,x7⟩,_⟩:=pdb_cells (HPC.out w5 HB5.out);simp only at x0 x1 x2 x3 x4 x5 x6 x7;have CM:=CMM.out w5 HB5.out;clear b5 CMM)
     |(go_simp;go_at_call 69;refine CM.mono ?_;clear CM x0 x1 x2 x3 x4 x5 x6 x7;rintro e w6 ⟨rfl,m3,k1,k2,k3,k4⟩;have K1:Hid _:=k1;have K2:Hid _:=k2;have K3:Hid _:=k3;have K4:Hid _:=k4;clear k1 k2 k3 k4))
    all_goals go_wp2
    all_goals go_meet
    all_goals exact⟨m3,K1,K2,K3,K4⟩
  ·by_cases hsn0:sn=0
   ·subst hsn0
    have hpc:=piece_none (some ⟨b,off+j,none⟩) 1
    rw[hpc]at SL0
    have HST:Hid (∀V,Calls Tryz.prog 158 #[hv 0 f c g pb mk] V fun e w'=>e = .returned (.int .i64 0)∧Below V.heap.size V w'):=fun V=>by
     refine (strongFrom_any _ _ _ _ _ _ V).mono ?_
     rintro e w' ⟨rfl,rfl⟩
     exact⟨by unfold sf;rw[if_neg hf0],(Below.refl _ _).alloc (Nat.le_refl _) _⟩
    have HLV:Hid (∀V',Below W0.heap.size W0 V'→IntsAt V' (.slice (some ⟨b,off+j,none⟩) 0 0) (keepsM H j)):=fun V' hV'=>by
     rw[HKP.out,if_neg hf0]
     exact⟨_,0,rfl,by simp,by decide,fun e=>(by cases e),fun h=>by simp at h⟩
    have CMM:Hid (∀V,Below w2.heap.size w2 V→Calls Tryz.prog 69 #[.pointer (some ⟨C,0,none⟩),.slice (some ⟨b,off+j,none⟩) 0 0] V fun e w'=>e = .returned (.tuple #[])∧∃m3:Mm,MR W0 C mb base up (.slice a ds.length cap) (okW H ps) (s+1) m X m3 w'∧MI H m3.M m3.Wt Q (fun p=>A p∨p=j)∧m.M.length<m3.M.length∧(j:Int) ∈ m3.M):=fun V hV=>HCM.out V _ hV HLV.out
    simp only at x0 x1 x2 x3 x4 x5 x6 x7
    clear HCM HLV hpc HSI HSA HPX HLO HIH HKP HRE HKS HTL HTS H2S HFM HML HJI HALLT HV HF HR HM HN HBX HQX
    go_region_law (first
     |(go_simp;go_at_call 71;refine SL0.mono ?_;clear SL0 x0 x1 x2 x3 x4 x5 x6 x7;rintro e w4 ⟨rfl,b4⟩;have HB4:Hid (Below w2.heap.size w2 w4):=HGO.out w4 b4;obtain⟨⟨x0,x1,x2,x3,x4,x5,x6,x7⟩,_⟩:=pdb_cells (HPC.out w4 HB4.out);simp only at x0 x1 x2 x3 x4 x5 x6 x7;have STR:=HST.out w4;clear b4 HGO HST)
     |(go_simp;go_at_call 158;refine STR.mono ?_;clear STR x0 x1 x2 x3 x4 x5 x6 x7;rintro e w5 ⟨rfl,b5⟩;have HB5:Hid (Below w2.heap.size w2 w5):=HB4.out.trans (b5.mono HB4.out.size);obtain⟨⟨x0,x1,x2,x3,x4,x5,x6,x7⟩,_⟩:=pdb_cells (HPC.out w5 HB5.out);simp only at x0 x1 x2 x3 x4 x5 x6 x7;have CM:=CMM.out w5 HB5.out;clear b5 CMM)
     |(go_simp;go_at_call 69;refine CM.mono ?_;clear CM x0 x1 x2 x3 x4 x5 x6 x7;rintro e w6 ⟨rfl,m3,k1,k2,k3,k4⟩;have K1:Hid _:=k1;have K2:Hid _:=k2;have K3:Hid _:=k3;have K4:Hid _:=k4;clear k1 k2 k3 k4))
    all_goals go_wp2
    all_goals go_meet
    all_goals exact⟨m3,K1,K2,K3,K4⟩
   ·have hsn1:0<sn:=by omega
    have hpc:=piece_at b (off+j) 1 sn hsn1
    rw[hpc]at SL0
    have HST:Hid (∀V,Calls Tryz.prog 158 #[hv (sn:Int) f c g pb mk] V fun e w'=>e = .returned (.int .i64 (sn:Int))∧Below V.heap.size V w'):=fun V=>by
     refine (strongFrom_any _ _ _ _ _ _ V).mono ?_
     rintro e w' ⟨rfl,rfl⟩
     exact⟨by unfold sf;rw[if_neg hf0],(Below.refl _ _).alloc (Nat.le_refl _) _⟩
    have HLV:Hid (∀V',Below W0.heap.size W0 V'→IntsAt V' (.slice (some ⟨b,off+j+1,none⟩) 0 0) (keepsM H j)):=fun V' hV'=>by
     rw[HKP.out,if_neg hf0]
     exact⟨_,0,rfl,by simp,by decide,fun e=>(by cases e),fun h=>by simp at h⟩
    have CMM:Hid (∀V,Below w2.heap.size w2 V→Calls Tryz.prog 69 #[.pointer (some ⟨C,0,none⟩),.slice (some ⟨b,off+j+1,none⟩) 0 0] V fun e w'=>e = .returned (.tuple #[])∧∃m3:Mm,MR W0 C mb base up (.slice a ds.length cap) (okW H ps) (s+1) m X m3 w'∧MI H m3.M m3.Wt Q (fun p=>A p∨p=j)∧m.M.length<m3.M.length∧(j:Int) ∈ m3.M):=fun V hV=>HCM.out V _ hV HLV.out
    simp only at x0 x1 x2 x3 x4 x5 x6 x7
    clear HCM HLV hpc HSI HSA HPX HLO HIH HKP HRE HKS HTL HTS H2S HFM HML HJI HALLT HV HF HR HM HN HBX HQX
    go_region_law (first
     |(go_simp;go_at_call 71;refine SL0.mono ?_;clear SL0 x0 x1 x2 x3 x4 x5 x6 x7;rintro e w4 ⟨rfl,b4⟩;have HB4:Hid (Below w2.heap.size w2 w4):=HGO.out w4 b4;obtain⟨⟨x0,x1,x2,x3,x4,x5,x6,x7⟩,_⟩:=pdb_cells (HPC.out w4 HB4.out);simp only at x0 x1 x2 x3 x4 x5 x6 x7;have STR:=HST.out w4;clear b4 HGO HST)
     |(go_simp;go_at_call 158;refine STR.mono ?_;clear STR x0 x1 x2 x3 x4 x5 x6 x7;rintro e w5 ⟨rfl,b5⟩;have HB5:Hid (Below w2.heap.size w2 w5):=HB4.out.trans (b5.mono HB4.out.size);obtain⟨⟨x0,x1,x2,x3,x4,x5,x6,x7⟩,_⟩:=pdb_cells (HPC.out w5 HB5.out);simp only at x0 x1 x2 x3 x4 x5 x6 x7;have CM:=CMM.out w5 HB5.out;clear b5 CMM)
     |(go_simp;go_at_call 69;refine CM.mono ?_;clear CM x0 x1 x2 x3 x4 x5 x6 x7;rintro e w6 ⟨rfl,m3,k1,k2,k3,k4⟩;have K1:Hid _:=k1;have K2:Hid _:=k2;have K3:Hid _:=k3;have K4:Hid _:=k4;clear k1 k2 k3 k4))
    all_goals go_wp2
    all_goals go_meet
    all_goals exact⟨m3,K1,K2,K3,K4⟩
 obtain⟨m3,HR3,HI3,HL3,HJ3⟩:=hcut
 obtain⟨w3,hw3⟩:∃w3,w3=wc:=⟨_,rfl⟩
 subst hw3
 clear HCM HPC x0 x1 x2 x3 x4 x5 x6 x7
 obtain⟨⟨x0,x1,x2,x3,x4,x5,x6,x7⟩,_⟩:=pdb_cells (HPX.out w3 HR3.out.ch)
 simp only at x0 x1 x2 x3 x4 x5 x6 x7
 by_cases hf2:f=2
 ·subst hf2
  have hs1:=H2S.out rfl
  have hsn1:0<sn:=by omega
  have hpc:=piece_at b (off+j) 1 sn hsn1
  have HPC:Hid (∀V,Below w3.heap.size w3 V→V.heap[P]? = some (pdb ⟨(sn:Int),2,c,g,pb,mk,.slice (some ⟨b,off+j,none⟩) cn cn,(j:Int)⟩)):=fun V hV=>HPX.out V (HR3.out.ch.trans (chP_below (S:=fun _=>False) hV) (fun j hj=>hj.elim))
  have hre:restM H (j:Int)=T.drop 1:=by rw[HRE.out,if_pos rfl]
  have HOW:Hid (∀V ad ln lc,Below w3.heap.size w3 V→(∀V',Below W0.heap.size W0 V'→IntsAt V' (.slice (some ad) ln lc) (T.drop 1))→Calls Tryz.prog 159 #[.pointer (some ⟨C,0,none⟩),.int .i64 (T.getD 0 0),.slice (some ad) ln lc] V fun e w'=>e = .returned (.tuple #[])∧∃m':Mm,MR W0 C mb base up (.slice a ds.length cap) (okW H ps) s m W m' w'∧MI H m'.M m'.Wt Q A∧(j:Int) ∈ m'.M):=fun V ad ln lc hV hlv=>by
   have SV:=HR3.out.ms.below hV
   have hT0:T.getD 0 0 ∈ T:=by
    have:=HTL.out
    rw[List.getD_eq_getElem?_getD,List.getElem?_eq_getElem (by omega)]
    exact List.getElem_mem _
   refine (orWait_any HV.out HF.out HR.out (HIH.out m3 HL3.out SV.ml) (Nat.le_refl _) SV HI3.out HJ3.out HFM.out (T.getD 0 0) (by rw[HTS.out]) (HALLT.out _ hT0) (fun x hx'=>HALLT.out x (by rw[hre]at hx';exact List.mem_of_mem_drop hx')) (by rw[hre,List.length_drop,HTL.out];omega) (fun W' hW'=>by rw[hre];exact hlv W' (HLO.out V _ _ SV W' hW'))).mono ?_
   rintro e w' ⟨rfl,m',mr,mi⟩
   refine⟨rfl,m',?_,mi,mr.le _ HJ3.out⟩
   have hBX:=HBX.out
   rw[←HPW.out]at hBX
   exact ((HR3.out.less (t:=s) (by omega)).below hV |>.trans mr).ahead hBX
  have HSI3:Hid (∀V,Below w3.heap.size w3 V→IntsAt V (.slice (some ⟨b,off+j+1,none⟩) sn sn) T):=fun V hV=>by
   rw[←hpc];exact HSI.out V (HR3.out.ms.low.trans (hV.mono HR3.out.ms.low.size))
  have HSI0:Hid (∀V,Below W0.heap.size W0 V→IntsAt V (.slice (some ⟨b,off+j+1,none⟩) sn sn) T):=fun V hV=>by
   rw[←hpc];exact HSI.out V hV
  have HSB:Hid (∀V,Calls Tryz.prog 71 #[cv (sn:Int) 2 c g pb mk (.slice (some ⟨b,off+j,none⟩) cn cn)] V fun e w'=>e = .returned (.slice (some ⟨b,off+j+1,none⟩) sn sn)∧Below V.heap.size V w'):=fun V=>by
   rw[←hpc];exact HSA.out V
  have B3:Below w3.heap.size w3 w3.drew:=(Below.refl _ _).drew
  have HGO:Hid (∀V,Below w3.drew.heap.size w3.drew V→Below w3.heap.size w3 V):=fun V hV=>B3.trans (hV.mono B3.size)
  have HTL3:Hid _:=HTL.out
  clear B3 HSI HSA hre HR3 HI3 HL3 HJ3 HPX HLO HV HF HR HALLT HKP HRE HKS HTL HTS H2S HFM HML HJI HIH HM HN hf hpc hs1 HBX HQX
  by_cases hone:sn=1
  ·subst hone
   have HLV:Hid (∀V',Below W0.heap.size W0 V'→IntsAt V' (.slice (some ⟨b,off+j+1,none⟩) 0 0) (T.drop 1)):=fun V' hV'=>by
    have e:=ints_drop (k:=1) (HSI0.out V' hV') (by omega) (a:=some ⟨b,off+j+1,none⟩) (fun e=>absurd e (by omega)) (fun e=>(by cases e))
    exact e
   have HC0:Hid (∀V,Below w3.heap.size w3 V→V.cell? ⟨b,off+j+1,none⟩=some (.int .i64 (T.getD 0 0))):=fun V hV=>by
    obtain⟨a',c',e',_,_,_,hcc⟩:=HSI3.out V hV
    have:=HTL3.out
    obtain⟨b',off',e2,_,hc2⟩:=hcc (by omega)
    injection e' with e' _ _
    rw[←e']at e2
    injection e2 with e2
    injection e2 with e3 e4 _
    subst e3 e4
    exact hc2 0 (by omega)
   have CMM:Hid _:=fun V hV=>HOW.out V ⟨b,off+j+1,none⟩ 0 0 hV HLV.out
   have SA1:=HSB.out w3.drew
   have r0:=HC0.out w3.drew (Below.refl _ _).drew
   generalize T.getD 0 0=y0 at *
   clear HOW HLV HSI0 HSI3 HTL3
   go_wp2_with fail
   go_region_law (first
    |(go_simp;go_at_call 71;refine SA1.mono ?_;clear SA1 r0 x0 x1 x2 x3 x4 x5 x6 x7;rintro e w4 ⟨rfl,b4⟩;have HB4:Hid (Below w3.heap.size w3 w4):=HGO.out w4 b4;obtain⟨⟨x0,x1,x2,x3,x4,x5,x6,x7⟩,_⟩:=pdb_cells (HPC.out w4 HB4.out);simp only at x0 x1 x2 x3 x4 x5 x6 x7;have r0:=HC0.out w4 HB4.out;have SA2:=HSB.out w4;clear b4 HGO HSB)
    |(go_simp;go_at_call 71;refine SA2.mono ?_;clear SA2 r0 x0 x1 x2 x3 x4 x5 x6 x7;rintro e w5 ⟨rfl,b5⟩;have HB5:Hid (Below w3.heap.size w3 w5):=HB4.out.trans (b5.mono HB4.out.size);obtain⟨⟨x0,x1,x2,x3,x4,x5,x6,x7⟩,_⟩:=pdb_cells (HPC.out w5 HB5.out);simp only at x0 x1 x2 x3 x4 x5 x6 x7;have r0:=HC0.out w5 HB5.out;have CM:=CMM.out w5 HB5.out;clear b5 CMM)
    |(go_simp;go_at_call 159;refine CM.mono ?_;clear CM r0 x0 x1 x2 x3 x4 x5 x6 x7;rintro e w6 ⟨rfl,m4,k1,k2,k4⟩;have K1:Hid _:=k1;have K2:Hid _:=k2;have K4:Hid _:=k4;clear k1 k2 k4))
   all_goals go_wp2_with fail
   all_goals exact bodyPost_end (results_none rfl _ _ _) rfl ⟨rfl,m4,K1.out,K2.out,K4.out⟩
  ·have hsn2:1<sn:=by omega
   have HLV:Hid (∀V',Below W0.heap.size W0 V'→IntsAt V' (.slice (some ⟨b,off+j+1+1,none⟩) (sn-1) (sn-1)) (T.drop 1)):=fun V' hV'=>by
    have e:=ints_drop (k:=1) (HSI0.out V' hV') (by omega) (a:=some ⟨b,off+j+1+1,none⟩) (fun e=>rfl) (fun e=>(by cases e))
    exact e
   have HC0:Hid (∀V,Below w3.heap.size w3 V→V.cell? ⟨b,off+j+1,none⟩=some (.int .i64 (T.getD 0 0))):=fun V hV=>by
    obtain⟨a',c',e',_,_,_,hcc⟩:=HSI3.out V hV
    have:=HTL3.out
    obtain⟨b',off',e2,_,hc2⟩:=hcc (by omega)
    injection e' with e' _ _
    rw[←e']at e2
    injection e2 with e2
    injection e2 with e3 e4 _
    subst e3 e4
    exact hc2 0 (by omega)
   have CMM:Hid _:=fun V hV=>HOW.out V ⟨b,off+j+1+1,none⟩ (sn-1) (sn-1) hV HLV.out
   have SA1:=HSB.out w3.drew
   have r0:=HC0.out w3.drew (Below.refl _ _).drew
   generalize T.getD 0 0=y0 at *
   have hs2:¬sn=0:=by omega
   have hs3:(0:Int)<(sn:Int):=by omega
   have hs4:(1:Int)≤(sn:Int):=by omega
   clear HOW HLV HSI0 HSI3 HTL3
   go_wp2_with fail
   go_region_law (first
    |(go_simp;go_at_call 71;refine SA1.mono ?_;clear SA1 r0 x0 x1 x2 x3 x4 x5 x6 x7;rintro e w4 ⟨rfl,b4⟩;have HB4:Hid (Below w3.heap.size w3 w4):=HGO.out w4 b4;obtain⟨⟨x0,x1,x2,x3,x4,x5,x6,x7⟩,_⟩:=pdb_cells (HPC.out w4 HB4.out);simp only at x0 x1 x2 x3 x4 x5 x6 x7;have r0:=HC0.out w4 HB4.out;have SA2:=HSB.out w4;clear b4 HGO HSB)
    |(go_simp;go_at_call 71;refine SA2.mono ?_;clear SA2 r0 x0 x1 x2 x3 x4 x5 x6 x7;rintro e w5 ⟨rfl,b5⟩;have HB5:Hid (Below w3.heap.size w3 w5):=HB4.out.trans (b5.mono HB4.out.size);obtain⟨⟨x0,x1,x2,x3,x4,x5,x6,x7⟩,_⟩:=pdb_cells (HPC.out w5 HB5.out);simp only at x0 x1 x2 x3 x4 x5 x6 x7;have r0:=HC0.out w5 HB5.out;have CM:=CMM.out w5 HB5.out;clear b5 CMM)
    |(go_simp;go_at_call 159;refine CM.mono ?_;clear CM r0 x0 x1 x2 x3 x4 x5 x6 x7;rintro e w6 ⟨rfl,m4,k1,k2,k4⟩;have K1:Hid _:=k1;have K2:Hid _:=k2;have K4:Hid _:=k4;clear k1 k2 k4))
   all_goals go_wp2_with fail
   all_goals exact bodyPost_end (results_none rfl _ _ _) rfl ⟨rfl,m4,K1.out,K2.out,K4.out⟩
 ·have hf2':(f==2)=false:=by simpa using hf2
  have HE:Hid (MI H m3.M m3.Wt Q A):=by
   refine HI3.out.goRest.mono (fun x hx' => ?_)
   rcases hx' with e|e
   ·exact .inl e
   ·rw[HRE.out,if_neg hf2]at e;cases e
  have HRW:Hid (MR W0 C mb base up (.slice a ds.length cap) (okW H ps) s m W m3 w3):=by
   have hBX:=HBX.out
   rw[←HPW.out]at hBX
   exact (HR3.out.less (t:=s) (by omega)).ahead hBX
  clear HI3 HR3 HPX HSA HSI hf
  go_wp2_with fail
  exact bodyPost_end (results_none rfl _ _ _) rfl ⟨rfl,m3,HRW.out,HE.out,HJ3.out⟩
end Go.Proofs.YtocidankimefpaaGreatDoor.hp
