/-
  What the program's chunkOf and ChunkAt answer. What the program's ObjectAt answers where there is no object; the words of a chunk. Chapter 8 as the program has it: a free chunk written into a row. Chapter 8 as the specification has it: a free chunk written, what is freed.
-/
import Derived.Test.YtemlagfaaibenaaGreatM6
import Derived.Test.YtemlagfaaibenaaGreatM2
import Derived.Test.YtemlagfaaibenaaGreatM4
import Derived.Test.YtemlagfaaibenaaGreatM5
import Derived.Test.YtemlagfaaibenaaGreatM3
import Derived.Deep.RegionLaw
namespace Go.Proofs.YtemlagfaaibenaaGreat.walks
open Go.RowKit rows heads words
set_option maxRecDepth 100000
theorem sbOf_I {xs:List Int} (ha:AllI xs) (k:Nat) (s f:Int):I64 (sbOf xs k s f):=by
 have:=readAt_I ha ((k:Int)+1)
 unfold sbOf
 split
 ·split
  ·exact this
  ·exact⟨by decide,by decide⟩
 ·unfold sz I64
  split
  ·rename_i h;have:=inR_true h;omega
  ·omega
theorem cutOk_of {len:Nat} {f n:Int} (h:0≤f∧0≤n∧f+n≤len):cutOk len f n=true:=by simpa [cutOk] using h
theorem chunk_by {xs:List Int} {k:Nat} (d:okAt xs k=true) (e:(ok (xs.getD k 0) && !uM (xs.getD k 0))=true) :
    chunk xs k=if cutOk xs.length k (sbOf xs k (uS (xs.getD k 0)) (uF (xs.getD k 0)))=true∧sbOf xs k (uS (xs.getD k 0)) (uF (xs.getD k 0))≠0∧(uF (xs.getD k 0)=7→isA (xs.getD (k+1) 0)=true)
     then sbOf xs k (uS (xs.getD k 0)) (uF (xs.getD k 0)) else 0:=by
 have bs:=uS_bounds (xs.getD k 0)
 have zs:=sz_bounds bs.1 bs.2
 simp only[okAt,Bool.and_eq_true]at d
 have hk:=atOk_true d.2
 unfold chunk
 rw[if_pos e]
 unfold sbOf
 by_cases h6:uF (xs.getD k 0)=6
 ·rw[if_pos h6,if_pos h6,h6]
  by_cases hk1:k+1<xs.length
  ·have er:readAt xs ((k:Int)+1)=xs.getD (k+1) 0:=by
     have:okAt xs ((k:Int)+1)=true:=by simp only[okAt,Bool.and_eq_true];exact⟨d.1,by simp[atOk];omega⟩
     simp only[readAt,this,if_true]
     congr 1
   rw[er]
   generalize xs.getD (k+1) 0=y
   by_cases hf:freeOk xs.length k y=true
   ·have hf':=hf
    simp only[freeOk,decide_eq_true_eq]at hf'
    have hc:csOk y=true:=by simp[csOk];omega
    rw[if_pos ⟨hk1,hf⟩,if_pos hc,if_pos]
    exact⟨cutOk_of (by omega),by omega,by omega⟩
   ·rw[if_neg (by simp[hf])]
    by_cases hc:csOk y=true
    ·rw[if_pos hc,if_neg]
     rintro⟨h1,h2,_⟩
     simp only[freeOk,decide_eq_true_eq]at hf
     simp only[csOk,decide_eq_true_eq]at hc
     have:=cutOk_true h1
     omega
    ·rw[if_neg hc,if_neg (by simp)]
  ·have er:readAt xs ((k:Int)+1)=0:=by
     have:okAt xs ((k:Int)+1)=false:=by simp[okAt,atOk];omega
     simp[readAt,this]
   rw[er,if_neg (by omega)]
   simp
 ·rw[if_neg h6,if_neg h6]
  by_cases hc:(k:Int)+sz (uS (xs.getD k 0))≤xs.length∧(uF (xs.getD k 0)=7→isA (xs.getD (k+1) 0)=true)
  ·rw[if_pos hc,if_pos]
   exact⟨cutOk_of (by omega),by omega,hc.2⟩
  ·rw[if_neg hc,if_neg]
   rintro⟨h1,_,h3⟩
   have:=cutOk_true h1
   exact hc ⟨by omega,h3⟩
theorem sbOf_two (xs:List Int) (k:Nat) (s f:Int):sbOf xs k s f=0∨2≤sbOf xs k s f:=by
 unfold sbOf
 split
 ·split
  ·rename_i h
   simp only[csOk,decide_eq_true_eq]at h
   exact .inr h.1
  ·exact .inl rfl
 ·unfold sz
  split
  ·rename_i h;have:=inR_true h;omega
  ·exact .inl rfl
abbrev noChunk:Value:=.tuple #[cv 0 0 0 0 false false (.slice none 0 0),.bool false]
theorem chunkOf_out {w:World} {v:Value} {xs:List Int} (h:IntsAt w v xs) (hl:xs.length≤1048576) (i:Int) (hi:I64 i) (d:okAt xs i=false) :
    Calls Tryz.prog 130 #[v,.int .i64 i] w fun e w'=>e = .returned noChunk∧Below w.heap.size w w':=by
 have B0:Below w.heap.size w (w.alloc (cb 0 0 0 0 false false (.slice none 0 0))):=(Below.refl _ _).alloc (Nat.le_refl _) _
 have T0:=chAt_new w 0 0 0 0 false false (.slice none 0 0)
 have s0:w.heap.size+1≤(w.alloc (cb 0 0 0 0 false false (.slice none 0 0))).heap.size:=by simp
 have RD:=headAt_no (intsAt_below h B0) hl i hi d
 go_enter Tryz.func130,Tryz.ntmps130
 go_wp2_with fail
 generalize (w.alloc (Obj.cells #[.int .i64 0,.int .i64 0,.int .i64 0,.int .i64 0,.bool false,.bool false,.slice none 0 0] 44))=X at *
 refine RD.mono ?_
 rintro e w1 ⟨rfl,b1⟩
 have s1:=b1.size
 have T1:=chAt_alloc (chAt_below T0 b1) (hb 0 0 0 0 false false)
 have B1:=(B0.trans (b1.mono (by omega))).alloc (by omega) (hb 0 0 0 0 false false)
 obtain⟨t0,t1,t2,t3,t4,t5,t6,tf⟩:=chAt_cells T1
 have f0:=tf 0;have f1:=tf 1;have f2:=tf 2;have f3:=tf 3;have f4:=tf 4;have f5:=tf 5;have f6:=tf 6
 have T2:Hid _:=seven_set T1 0 0 0 0 false false (.slice none 0 0)
 have B2:Hid _:=seven_below B1 (Nat.le_refl _) 0 0 0 0 false false (.slice none 0 0)
 clear b1 RD T0 B0 B1 tf T1
 go_wp2
 exact bodyPost_ret (v:=noChunk) (res_chunk_one rfl rfl rfl T2) rfl ⟨rfl,B2⟩
def chRes (a:Option Addr) (xs:List Int) (k:Nat):Value:=
 if chunk xs k=0 then noChunk else .tuple #[cv (uS (xs.getD k 0)) (uF (xs.getD k 0)) (uC (xs.getD k 0)) (uH (xs.getD k 0)) (uP (xs.getD k 0)) (uM (xs.getD k 0)) (piece a k (chunk xs k).toNat),.bool true]
set_option maxHeartbeats 1000000 in
theorem chunkOf_in {w:World} {a:Option Addr} {cap:Nat} {xs:List Int} (h:IntsAt w (.slice a xs.length cap) xs) (hl:xs.length≤1048576) (ha:AllI xs) (k:Nat) (d:okAt xs k=true) :
    Calls Tryz.prog 130 #[.slice a xs.length cap,.int .i64 k] w fun e w'=>e = .returned (chRes a xs k)∧Below w.heap.size w w':=by
 have h':=h
 obtain⟨a',cap',e',hlc,hcm,hnil,hc⟩:=h
 injection e' with e1 e2 e3
 subst e1 e3
 have hk:k<xs.length:=by
  simp only[okAt,Bool.and_eq_true]at d
  have:=atOk_true d.2
  omega
 obtain⟨b,off,rfl,hblk,hcc⟩:=hc (by omega)
 have hx:=allI_at ha hk
 have BY:=fun e=>chunk_by (xs:=xs) (k:=k) d e
 have B0:Below w.heap.size w (w.alloc (cb 0 0 0 0 false false (.slice none 0 0))):=(Below.refl _ _).alloc (Nat.le_refl _) _
 have T0:=chAt_new w 0 0 0 0 false false (.slice none 0 0)
 have s0:w.heap.size+1≤(w.alloc (cb 0 0 0 0 false false (.slice none 0 0))).heap.size:=by simp
 have RD:=headAt_yes (intsAt_below h' B0) hl k d hx
 have SB:∀(W:World),Below w.heap.size w W→_:=fun W hW=>sizeBy_any (intsAt_below h' hW) hl ha k (by omega) (uS (xs.getD k 0)) (uF (xs.getD k 0)) (uC (xs.getD k 0)) (uH (xs.getD k 0)) (uP (xs.getD k 0)) (uM (xs.getD k 0))
 have NI:=sbOf_I ha k (uS (xs.getD k 0)) (uF (xs.getD k 0))
 have RES0:Hid (chunk xs k=0→chRes (some ⟨b,off,none⟩) xs k=noChunk):=fun e=>by unfold chRes;rw[if_pos e]
 have RES1:Hid (chunk xs k≠0→chRes (some ⟨b,off,none⟩) xs k = .tuple #[cv (uS (xs.getD k 0)) (uF (xs.getD k 0)) (uC (xs.getD k 0)) (uH (xs.getD k 0)) (uP (xs.getD k 0)) (uM (xs.getD k 0)) (piece (some ⟨b,off,none⟩) k (chunk xs k).toNat),.bool true]):=fun e=>by unfold chRes;rw[if_neg e]
 have N2:=sbOf_two xs k (uS (xs.getD k 0)) (uF (xs.getD k 0))
 have CH0:(ok (xs.getD k 0) && !uM (xs.getD k 0))=false→chunk xs k=0:=fun e=>by unfold chunk;rw[if_neg (by rw[e];simp)]
 generalize chRes (some ⟨b,off,none⟩) xs k=R at *
 generalize ho:(ok (xs.getD k 0) && !uM (xs.getD k 0))=o at *
 have HCY:Hid (∀j,k+j<xs.length→w.cell? ⟨b,off+k+j,none⟩=some (.int .i64 (xs.getD (k+j) 0))):=fun j hj=>by rw[Nat.add_assoc];exact hcc _ hj
 have HYI:Hid (∀j,k+j<xs.length→I64 (xs.getD (k+j) 0)):=fun j hj=>allI_at ha hj
 clear hc hcc hnil
 generalize sbOf xs k (uS (xs.getD k 0)) (uF (xs.getD k 0))=n at *
 generalize uS (xs.getD k 0)=s at *
 generalize uF (xs.getD k 0)=f at *
 generalize uC (xs.getD k 0)=c at *
 generalize uH (xs.getD k 0)=g at *
 generalize uP (xs.getD k 0)=p at *
 generalize uM (xs.getD k 0)=m at *
 generalize hch:chunk xs k=ch at *
 have HBY:Hid _:=BY
 have HCH:Hid _:=CH0
 clear ho BY CH0 hch
 go_enter Tryz.func130,Tryz.ntmps130
 go_wp2_with fail
 generalize (w.alloc (Obj.cells #[.int .i64 0,.int .i64 0,.int .i64 0,.int .i64 0,.bool false,.bool false,.slice none 0 0] 44))=X at *
 refine RD.mono ?_
 rintro e w1 ⟨rfl,b1⟩
 have s1:=b1.size
 have T1:=chAt_alloc (chAt_below T0 b1) (hb s f c g p m)
 have B1:=(B0.trans (b1.mono (by omega))).alloc (by omega) (hb s f c g p m)
 have N1:=headAt_new w1 s f c g p m
 have S1:w1.heap.size+1≤(w1.alloc (hb s f c g p m)).heap.size:=by simp
 clear b1 RD T0 B0
 cases o
 ·obtain⟨t0,t1,t2,t3,t4,t5,t6,tf⟩:=chAt_cells T1
  have f0:=tf 0;have f1:=tf 1;have f2:=tf 2;have f3:=tf 3;have f4:=tf 4;have f5:=tf 5;have f6:=tf 6
  have T2:Hid _:=seven_set T1 0 0 0 0 false false (.slice none 0 0)
  have B2:Hid _:=seven_below B1 (Nat.le_refl _) 0 0 0 0 false false (.slice none 0 0)
  have ER:Hid _:=RES0.out (HCH.out rfl)
  clear B1 tf T1 HCH HBY RES0 RES1
  go_wp2
  refine bodyPost_ret (v:=noChunk) (res_chunk_one rfl rfl rfl T2) rfl ⟨?_,B2⟩
  rw[ER.out]
 ·have HBY2:Hid _:=HBY.out rfl
  clear HBY
  obtain⟨n0,n1,n2,n3,n4,n5,nf⟩:=headAt_cells N1
  go_wp2_with fail
  generalize hY:w1.alloc (Obj.cells #[.int .i64 s,.int .i64 f,.int .i64 c,.int .i64 g,.bool p,.bool m] 39)=Y at *
  clear hY n0 n1 n2 n3 n4 n5 nf
  refine (SB _ B1).mono ?_
  clear SB
  rintro e w2 ⟨rfl,b2⟩
  have s2:=b2.size
  have T2:=chAt_below (show ChAt Y w.heap.size 0 0 0 0 false false (.slice none 0 0) from T1) b2
  have N2':=headAt_below (show HeadAt Y w1.heap.size s f c g p m from N1) b2
  have B2:=B1.trans (b2.mono (by omega))
  clear b2 B1 T1 N1
  go_wp2_with fail
  cases dc:cutOk xs.length k n
  ·have E0:ch=0:=by rw[HBY2.out,dc];simp
   have ER:Hid _:=RES0.out E0
   clear HBY2 HCH RES0 RES1 E0
   refine (cut_no hlc hcm k n ⟨by omega,by omega⟩ NI dc).mono ?_
   rintro e w3 ⟨rfl,hw3⟩
   rw[hw3]
   clear hw3 w3
   obtain⟨t0,t1,t2,t3,t4,t5,t6,tf⟩:=chAt_cells T2
   have f0:=tf 0;have f1:=tf 1;have f2:=tf 2;have f3:=tf 3;have f4:=tf 4;have f5:=tf 5;have f6:=tf 6
   have T3:Hid _:=seven_set T2 0 0 0 0 false false (.slice none 0 0)
   have B3:Hid _:=seven_below B2 (Nat.le_refl _) 0 0 0 0 false false (.slice none 0 0)
   clear B2 tf T2
   go_wp2
   refine bodyPost_ret (v:=noChunk) (res_chunk_one rfl rfl rfl T3) rfl ⟨?_,B3⟩
   rw[ER.out]
  ·obtain⟨c1,c2,c3⟩:=cutOk_true dc
   obtain⟨N,rfl⟩:=Int.eq_ofNat_of_zero_le c2
   refine (cut_yes hlc hcm k N (by omega)).mono ?_
   rintro e w3 ⟨rfl,hw3⟩
   rw[hw3]
   clear hw3 w3
   by_cases hN:N=0
   ·subst hN
    have E0:ch=0:=by rw[HBY2.out];simp
    have ER:Hid _:=RES0.out E0
    clear HBY2 HCH RES0 RES1 E0
    rw[piece_none]
    obtain⟨t0,t1,t2,t3,t4,t5,t6,tf⟩:=chAt_cells T2
    have f0:=tf 0;have f1:=tf 1;have f2:=tf 2;have f3:=tf 3;have f4:=tf 4;have f5:=tf 5;have f6:=tf 6
    have T3:Hid _:=seven_set T2 0 0 0 0 false false (.slice none 0 0)
    have B3:Hid _:=seven_below B2 (Nat.le_refl _) 0 0 0 0 false false (.slice none 0 0)
    clear B2 tf T2
    go_wp2
    refine bodyPost_ret (v:=noChunk) (res_chunk_one rfl rfl rfl T3) rfl ⟨?_,B3⟩
    rw[ER.out]
   ·have hN2:2≤N:=by omega
    rw[piece_at b off k N (by omega)]
    obtain⟨n0,n1,n2,n3,n4,n5,nf⟩:=headAt_cells N2'
    clear nf
    have hU:∀W:World,Below w.heap.size w W→W.cell? ⟨b,off+k+1,none⟩=some (.int .i64 (xs.getD (k+1) 0)):=fun W hW=>(hW.cell (p:=⟨b,off+k+1,none⟩) hblk).trans (HCY.out 1 (by omega))
    have hyI:=HYI.out 1 (by omega)
    have RES2:Hid (ch=(N:Int)→R = .tuple #[cv s f c g p m (.slice (some ⟨b,off+k,none⟩) N N),.bool true]):=fun e=>by
     rw[RES1.out (by omega),e,Int.toNat_natCast,piece_at b off k N (by omega)]
    generalize xs.getD (k+1) 0=y at *
    have HU:Hid _:=hU
    clear hU RES1 HCY HYI
    go_wp2_with fail
    refine (isNote_any s f c g p m _ _).mono ?_
    rintro e w4 ⟨rfl,hw4⟩
    have T4:=chAt_alloc (chAt_alloc T2 (cb s f c g p m (.slice (some ⟨b,off+k,none⟩) N N))) (cb s f c g p m (.slice (some ⟨b,off+k,none⟩) N N))
    have M4:=chAt_alloc (chAt_new w2 s f c g p m (.slice (some ⟨b,off+k,none⟩) N N)) (cb s f c g p m (.slice (some ⟨b,off+k,none⟩) N N))
    have B4:=(B2.alloc (by omega) (cb s f c g p m (.slice (some ⟨b,off+k,none⟩) N N))).alloc (by simp;omega) (cb s f c g p m (.slice (some ⟨b,off+k,none⟩) N N))
    rw[←hw4]at T4 M4 B4
    clear hw4 T2 N2' B2 n0 n1 n2 n3 n4 n5
    have cy:=HU.out _ B4
    clear HU
    obtain⟨t0,t1,t2,t3,t4,t5,t6,tf⟩:=chAt_cells T4
    have f0:=tf 0;have f1:=tf 1;have f2:=tf 2;have f3:=tf 3;have f4:=tf 4;have f5:=tf 5;have f6:=tf 6
    obtain⟨m0,m1,m2,m3,m4,m5,m6,mf⟩:=chAt_cells M4
    have T5:Hid _:=seven_set T4 0 0 0 0 false false (.slice none 0 0)
    have B5:Hid _:=seven_below B4 (Nat.le_refl _) 0 0 0 0 false false (.slice none 0 0)
    have T6:Hid _:=seven_set T4 s f c g p m (.slice (some ⟨b,off+k,none⟩) N N)
    have B6:Hid _:=seven_below B4 (Nat.le_refl _) s f c g p m (.slice (some ⟨b,off+k,none⟩) N N)
    clear tf mf T4 M4 B4
    by_cases h7:f=7
    ·subst h7
     cases dA:isA y
     ·have ER:Hid _:=RES0.out (show ch=0 by rw[HBY2.out,if_neg];rintro⟨_,_,h3⟩;exact absurd (h3 rfl) (by simp[dA]))
      clear RES0 RES2 HBY2 HCH T6 B6
      go_wp2_with (go_at_call 137;refine (isAddr_any _ _ hyI.1 hyI.2).mono ?_;rintro e w5 ⟨rfl,rfl⟩)
      refine bodyPost_ret (v:=noChunk) (res_chunk_one rfl rfl rfl T5) rfl ⟨?_,B5⟩
      rw[ER.out]
     ·have ER:Hid _:=RES2.out (show ch=(N:Int) by rw[HBY2.out,if_pos];exact⟨dc,by omega,fun _=>dA⟩)
      clear RES0 RES2 HBY2 HCH T5 B5
      go_wp2_with (go_at_call 137;refine (isAddr_any _ _ hyI.1 hyI.2).mono ?_;rintro e w5 ⟨rfl,rfl⟩)
      refine bodyPost_ret (v:=.tuple #[cv s 7 c g p m (.slice (some ⟨b,off+k,none⟩) N N),.bool true]) (res_chunk_one rfl rfl rfl T6) rfl ⟨?_,B6⟩
      rw[ER.out]
    ·have h7':(f==7)=false:=by simp[h7]
     have ER:Hid _:=RES2.out (show ch=(N:Int) by rw[HBY2.out,if_pos];exact⟨dc,by omega,fun h=>absurd h h7⟩)
     clear RES0 RES2 HBY2 HCH T5 B5
     go_wp2
     refine bodyPost_ret (v:=.tuple #[cv s f c g p m (.slice (some ⟨b,off+k,none⟩) N N),.bool true]) (res_chunk_one rfl rfl rfl T6) rfl ⟨?_,B6⟩
     rw[ER.out]
theorem chunk_nat (xs:List Int) (k:Nat):((chunk xs k).toNat:Int)=chunk xs k:=Int.toNat_of_nonneg (chunk_le xs k).1
theorem isFree_any (s f c h:Int) (p m:Bool) (u:Value) (w:World) :
    Calls Tryz.prog 108 #[cv s f c h p m u] w fun e w'=>e = .returned (.bool (f==6))∧w'=w.alloc (cb s f c h p m u):=by
 go_enter Tryz.func108,Tryz.ntmps108
 go_wp2
 go_ret
 exact⟨rfl,rfl⟩
theorem slots_any (s f c h:Int) (p m:Bool) (b o N n:Nat) (w:World) (hN:N≤1048576) (hn:(if f=7 then 1 else s)=(n:Int)) (hle:1+n≤N) :
    Calls Tryz.prog 63 #[cv s f c h p m (.slice (some ⟨b,o,none⟩) N N)] w fun e w'=>e = .returned (piece (some ⟨b,o,none⟩) 1 n)∧Below w.heap.size w w':=by
 have B0:Below w.heap.size w ((w.alloc (cb s f c h p m (.slice (some ⟨b,o,none⟩) N N))).alloc (cb s f c h p m (.slice (some ⟨b,o,none⟩) N N))):=((Below.refl _ w).alloc (Nat.le_refl _) _).alloc (by simp) _
 have HB:Hid _:=B0
 clear B0
 by_cases h7:f=7
 ·subst h7
  have e1:n=1:=by simp at hn;omega
  subst e1
  go_enter Tryz.func63,Tryz.ntmps63
  go_wp2_with (go_at_call 62;refine (isNote_any _ _ _ _ _ _ _ _).mono ?_;rintro e w1 ⟨rfl,rfl⟩)
  all_goals go_ret
  all_goals exact⟨by simp[piece,Addr.add],HB⟩
 ·have h7':(f==7)=false:=by simpa using h7
  rw[if_neg h7]at hn
  subst hn
  go_enter Tryz.func63,Tryz.ntmps63
  go_wp2_with (go_at_call 62;refine (isNote_any _ _ _ _ _ _ _ _).mono ?_;rintro e w1 ⟨rfl,rfl⟩)
  ·have e0:n=0:=by omega
   subst e0
   go_ret
   exact⟨by simp[piece],HB⟩
  ·go_ret
   exact⟨by simp[piece,Addr.add, *],HB⟩
theorem piece_is {w:World} {a:Option Addr} {cap:Nat} {xs:List Int} (h:IntsAt w (.slice a xs.length cap) xs) (hl:xs.length≤1048576) (k n:Nat) (hk:k+n≤xs.length):IntsAt w (piece a k n) ((xs.drop k).take n):=by
 obtain⟨a',cap',e,hlc,hcm,hnil,hc⟩:=h
 injection e with e1 e2 e3
 subst e1 e3
 have el:((xs.drop k).take n).length=n:=by simp;omega
 by_cases h0:n=0
 ·subst h0
  rw[piece_none]
  exact⟨a,0,by simp,by simp,by decide,fun _=>rfl,fun h=>by simp at h⟩
 ·obtain⟨b,off,rfl,hb,hcc⟩:=hc (by omega)
  rw[piece_at b off k n (by omega)]
  refine⟨_,n,by rw[el],by omega,by unfold maxLen;omega,fun h=>by simp at h,fun _=>⟨b,off+k,rfl,hb,fun i hi => ?_⟩⟩
  rw[el]at hi
  have:=hcc (k+i) (by omega)
  rw[Nat.add_assoc,this]
  simp[List.getD_eq_getElem?_getD,hi]
theorem zeroI:∀w,(zeroValue 2).run Tryz.prog w = .ok (.int .i64 0) w:=fun w=>by go_simp
theorem splice_fill {xs:List Int} {k n:Nat}:splice (cellsOf xs) k (List.replicate n (.int .i64 0))=cellsOf (fill xs k n 0):=by
 simp[splice,cellsOf,fill,List.map_take,List.map_drop]
theorem step_clear_ints {w:World} {ops:Array Oper} {o:Oper} {a:Act} {K:Act→World→Prop} {Q:Exit→Act→World→Prop} {E:Prop} (hgd:o.guard=none) (s:Operand)
    (ho:o.op = .call { callee:=.builtin .clear,args:=#[s],argTypes:=#[22] }) {g k n c:Nat} {xs:List Int} (hs:a.eval s = .slice (some ⟨g,k,none⟩) n c) (hn:0<n) (hF:Full w g xs) (hfit:k+n≤xs.length)
    (h:∀w',Hid (Full w' g (fill xs k n 0))→Hid (w.grownBy w' (some g))→K (a.put o.dst (.tuple #[])) w') :
    if Region.wanted o (yielded ops a.tmps)=true then Oper.wp Tryz.prog o a w K Q else E:=by
 have hw:Region.wanted o (yielded ops a.tmps)=true:=by simp[Region.wanted,hgd]
 rw[if_pos hw]
 have hz:(Builtin.zeroCells (Value.int .i64 0).cells n).toList=List.replicate n (.int .i64 0):=by
  simp[Builtin.zeroCells,Value.cells]
  apply List.ext_getElem
  ·simp
  ·intro i h1 h2
   simp[Nat.mod_one]
 obtain⟨w',hrun,r1,r2,r3⟩:=copyk.run_clear_k (P:=Tryz.prog) w 22 2 o.type (.int .i64 0) 1 Tryz.underlying22 zeroI (some ⟨g,k,none⟩) n c g k (cellsOf xs) 2 hF (fun _=>rfl) (by rw[hz];simp) (by rw[hz];intro v hv;rw[List.eq_of_mem_replicate hv];rfl) (by simp;omega)
 rw[if_neg (by omega),hz,splice_fill]at r1
 have b0:=r3 (Below.refl 0 w) (Nat.zero_le _)
 unfold Oper.wp
 simp[execOp,ho,resolve,invoke,builtin,hs,hrun,Result.andThen]
 exact h w' r1 ⟨b0.os,b0.tape,b0.output,b0.size,fun j _ hj=>r2 j (fun e=>hj (by rw[e]))⟩
theorem grown_two {a b c:World} {r:Option Nat} (h:a.grownBy b r) (k:b.grownBy c r):a.grownBy c r:=
 ⟨k.os.trans h.os,k.tape.trans h.tape,k.output.trans h.output,Nat.le_trans h.size k.size,fun j hj hn=>(k.block j (Nat.lt_of_lt_of_le hj h.size) hn).trans (h.block j hj hn)⟩
theorem grown_bel' {w w':World} (hb:Below w.heap.size w w') (r:Option Nat):w.grownBy w' r:=⟨hb.os,hb.tape,hb.output,hb.size,fun k hk _=>hb.block k hk⟩
end Go.Proofs.YtemlagfaaibenaaGreat.walks
