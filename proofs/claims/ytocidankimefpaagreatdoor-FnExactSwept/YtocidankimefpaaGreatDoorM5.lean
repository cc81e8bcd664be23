/-
  What the program's chunkOf and ChunkAt answer. The places that the program's chunks hands out, as a list; a walk told by them. What the program's chunks hands out, round by round: for every loop body that keeps the row, its box and the chunks in memory.
-/
import Derived.Test.YtocidankimefpaaGreatDoorM4
import Derived.RangeFuncNested
import Derived.RangeFuncCalls
import Derived.RangeFuncLeaves
import Derived.Shelf.Abstract
import Derived.WalkKit
import Derived.OwnWalkIn
import Derived.TacticsInMore
import Derived.LoopNIn
import Derived.LoopIn
import Derived.Maps.AppendAt
namespace Go.Proofs.YtocidankimefpaaGreatDoor.walks
open Go.RowKit rows heads words
set_option maxRecDepth 100000
theorem sbOf_I {xs:List Int} (ha:AllI xs) (k:Nat) (s f:Int):I64 (sbOf xs k s f):=by
 have:=readAt_I ha ((k:Int)+1)
 unfold sbOf
 split
 ·split
  ·exact this
  ·exact⟨by decide,by decide⟩
 ·unfold sz I64
  split
  ·rename_i h;have:=inR_true h;omega
  ·omega
theorem cutOk_of {len:Nat} {f n:Int} (h:0≤f∧0≤n∧f+n≤len):cutOk len f n=true:=by simpa [cutOk] using h
theorem chunk_by {xs:List Int} {k:Nat} (d:okAt xs k=true) (e:(ok (xs.getD k 0) && !uM (xs.getD k 0))=true) :
    chunk xs k=if cutOk xs.length k (sbOf xs k (uS (xs.getD k 0)) (uF (xs.getD k 0)))=true∧sbOf xs k (uS (xs.getD k 0)) (uF (xs.getD k 0))≠0∧(uF (xs.getD k 0)=7→isA (xs.getD (k+1) 0)=true)
     then sbOf xs k (uS (xs.getD k 0)) (uF (xs.getD k 0)) else 0:=by
 have bs:=uS_bounds (xs.getD k 0)
 have zs:=sz_bounds bs.1 bs.2
 simp only[okAt,Bool.and_eq_true]at d
 have hk:=atOk_true d.2
 unfold chunk
 rw[if_pos e]
 unfold sbOf
 by_cases h6:uF (xs.getD k 0)=6
 ·rw[if_pos h6,if_pos h6,h6]
  by_cases hk1:k+1<xs.length
  ·have er:readAt xs ((k:Int)+1)=xs.getD (k+1) 0:=by
     have:okAt xs ((k:Int)+1)=true:=by simp only[okAt,Bool.and_eq_true];exact⟨d.1,by simp[atOk];omega⟩
     simp only[readAt,this,if_true]
     congr 1
   rw[er]
   generalize xs.getD (k+1) 0=y
   by_cases hf:freeOk xs.length k y=true
   ·have hf':=hf
    simp only[freeOk,decide_eq_true_eq]at hf'
    have hc:csOk y=true:=by simp[csOk];omega
    rw[if_pos ⟨hk1,hf⟩,if_pos hc,if_pos]
    exact⟨cutOk_of (by omega),by omega,by omega⟩
   ·rw[if_neg (by simp[hf])]
    by_cases hc:csOk y=true
    ·rw[if_pos hc,if_neg]
     rintro⟨h1,h2,_⟩
     simp only[freeOk,decide_eq_true_eq]at hf
     simp only[csOk,decide_eq_true_eq]at hc
     have:=cutOk_true h1
     omega
    ·rw[if_neg hc,if_neg (by simp)]
  ·have er:readAt xs ((k:Int)+1)=0:=by
     have:okAt xs ((k:Int)+1)=false:=by simp[okAt,atOk];omega
     simp[readAt,this]
   rw[er,if_neg (by omega)]
   simp
 ·rw[if_neg h6,if_neg h6]
  by_cases hc:(k:Int)+sz (uS (xs.getD k 0))≤xs.length∧(uF (xs.getD k 0)=7→isA (xs.getD (k+1) 0)=true)
  ·rw[if_pos hc,if_pos]
   exact⟨cutOk_of (by omega),by omega,hc.2⟩
  ·rw[if_neg hc,if_neg]
   rintro⟨h1,_,h3⟩
   have:=cutOk_true h1
   exact hc ⟨by omega,h3⟩
theorem sbOf_two (xs:List Int) (k:Nat) (s f:Int):sbOf xs k s f=0∨2≤sbOf xs k s f:=by
 unfold sbOf
 split
 ·split
  ·rename_i h
   simp only[csOk,decide_eq_true_eq]at h
   exact .inr h.1
  ·exact .inl rfl
 ·unfold sz
  split
  ·rename_i h;have:=inR_true h;omega
  ·exact .inl rfl
abbrev noChunk:Value:=.tuple #[cv 0 0 0 0 false false (.slice none 0 0),.bool false]
theorem chunkOf_out {w:World} {v:Value} {xs:List Int} (h:IntsAt w v xs) (hl:xs.length≤1048576) (i:Int) (hi:I64 i) (d:okAt xs i=false) :
    Calls Tryz.prog 164 #[v,.int .i64 i] w fun e w'=>e = .returned noChunk∧Below w.heap.size w w':=by
 have B0:Below w.heap.size w (w.alloc (cb 0 0 0 0 false false (.slice none 0 0))):=(Below.refl _ _).alloc (Nat.le_refl _) _
 have T0:=chAt_new w 0 0 0 0 false false (.slice none 0 0)
 have s0:w.heap.size+1≤(w.alloc (cb 0 0 0 0 false false (.slice none 0 0))).heap.size:=by simp
 have RD:=headAt_no (intsAt_below h B0) hl i hi d
 go_enter Tryz.func164,Tryz.ntmps164
 go_wp2_with fail
 generalize (w.alloc (Obj.cells #[.int .i64 0,.int .i64 0,.int .i64 0,.int .i64 0,.bool false,.bool false,.slice none 0 0] 56))=X at *
 refine RD.mono ?_
 rintro e w1 ⟨rfl,b1⟩
 have s1:=b1.size
 have T1:=chAt_alloc (chAt_below T0 b1) (hb 0 0 0 0 false false)
 have B1:=(B0.trans (b1.mono (by omega))).alloc (by omega) (hb 0 0 0 0 false false)
 obtain⟨t0,t1,t2,t3,t4,t5,t6,tf⟩:=chAt_cells T1
 have f0:=tf 0;have f1:=tf 1;have f2:=tf 2;have f3:=tf 3;have f4:=tf 4;have f5:=tf 5;have f6:=tf 6
 have T2:Hid _:=seven_set T1 0 0 0 0 false false (.slice none 0 0)
 have B2:Hid _:=seven_below B1 (Nat.le_refl _) 0 0 0 0 false false (.slice none 0 0)
 clear b1 RD T0 B0 B1 tf T1
 go_wp2
 exact bodyPost_ret (v:=noChunk) (res_chunk_one rfl rfl rfl T2) rfl ⟨rfl,B2⟩
def chRes (a:Option Addr) (xs:List Int) (k:Nat):Value:=
 if chunk xs k=0 then noChunk else .tuple #[cv (uS (xs.getD k 0)) (uF (xs.getD k 0)) (uC (xs.getD k 0)) (uH (xs.getD k 0)) (uP (xs.getD k 0)) (uM (xs.getD k 0)) (piece a k (chunk xs k).toNat),.bool true]
set_option maxHeartbeats 1000000 in
theorem chunkOf_in {w:World} {a:Option Addr} {cap:Nat} {xs:List Int} (h:IntsAt w (.slice a xs.length cap) xs) (hl:xs.length≤1048576) (ha:AllI xs) (k:Nat) (d:okAt xs k=true) :
    Calls Tryz.prog 164 #[.slice a xs.length cap,.int .i64 k] w fun e w'=>e = .returned (chRes a xs k)∧Below w.heap.size w w':=by
 have h':=h
 obtain⟨a',cap',e',hlc,hcm,hnil,hc⟩:=h
 injection e' with e1 e2 e3
 subst e1 e3
 have hk:k<xs.length:=by
  simp only[okAt,Bool.and_eq_true]at d
  have:=atOk_true d.2
  omega
 obtain⟨b,off,rfl,hblk,hcc⟩:=hc (by omega)
 have hx:=allI_at ha hk
 have BY:=fun e=>chunk_by (xs:=xs) (k:=k) d e
 have B0:Below w.heap.size w (w.alloc (cb 0 0 0 0 false false (.slice none 0 0))):=(Below.refl _ _).alloc (Nat.le_refl _) _
 have T0:=chAt_new w 0 0 0 0 false false (.slice none 0 0)
 have s0:w.heap.size+1≤(w.alloc (cb 0 0 0 0 false false (.slice none 0 0))).heap.size:=by simp
 have RD:=headAt_yes (intsAt_below h' B0) hl k d hx
 have SB:∀(W:World),Below w.heap.size w W→_:=fun W hW=>sizeBy_any (intsAt_below h' hW) hl ha k (by omega) (uS (xs.getD k 0)) (uF (xs.getD k 0)) (uC (xs.getD k 0)) (uH (xs.getD k 0)) (uP (xs.getD k 0)) (uM (xs.getD k 0))
 have NI:=sbOf_I ha k (uS (xs.getD k 0)) (uF (xs.getD k 0))
 have RES0:Hid (chunk xs k=0→chRes (some ⟨b,off,none⟩) xs k=noChunk):=fun e=>by unfold chRes;rw[if_pos e]
 have RES1:Hid (chunk xs k≠0→chRes (some ⟨b,off,none⟩) xs k = .tuple #[cv (uS (xs.getD k 0)) (uF (xs.getD k 0)) (uC (xs.getD k 0)) (uH (xs.getD k 0)) (uP (xs.getD k 0)) (uM (xs.getD k 0)) (piece (some ⟨b,off,none⟩) k (chunk xs k).toNat),.bool true]):=fun e=>by unfold chRes;rw[if_neg e]
 have N2:=sbOf_two xs k (uS (xs.getD k 0)) (uF (xs.getD k 0))
 have CH0:(ok (xs.getD k 0) && !uM (xs.getD k 0))=false→chunk xs k=0:=fun e=>by unfold chunk;rw[if_neg (by rw[e];simp)]
 generalize chRes (some ⟨b,off,none⟩) xs k=R at *
 generalize ho:(ok (xs.getD k 0) && !uM (xs.getD k 0))=o at *
 have HCY:Hid (∀j,k+j<xs.length→w.cell? ⟨b,off+k+j,none⟩=some (.int .i64 (xs.getD (k+j) 0))):=fun j hj=>by rw[Nat.add_assoc];exact hcc _ hj
 have HYI:Hid (∀j,k+j<xs.length→I64 (xs.getD (k+j) 0)):=fun j hj=>allI_at ha hj
 clear hc hcc hnil
 generalize sbOf xs k (uS (xs.getD k 0)) (uF (xs.getD k 0))=n at *
 generalize uS (xs.getD k 0)=s at *
 generalize uF (xs.getD k 0)=f at *
 generalize uC (xs.getD k 0)=c at *
 generalize uH (xs.getD k 0)=g at *
 generalize uP (xs.getD k 0)=p at *
 generalize uM (xs.getD k 0)=m at *
 generalize hch:chunk xs k=ch at *
 have HBY:Hid _:=BY
 have HCH:Hid _:=CH0
 clear ho BY CH0 hch
 go_enter Tryz.func164,Tryz.ntmps164
 go_wp2_with fail
 generalize (w.alloc (Obj.cells #[.int .i64 0,.int .i64 0,.int .i64 0,.int .i64 0,.bool false,.bool false,.slice none 0 0] 56))=X at *
 refine RD.mono ?_
 rintro e w1 ⟨rfl,b1⟩
 have s1:=b1.size
 have T1:=chAt_alloc (chAt_below T0 b1) (hb s f c g p m)
 have B1:=(B0.trans (b1.mono (by omega))).alloc (by omega) (hb s f c g p m)
 have N1:=headAt_new w1 s f c g p m
 have S1:w1.heap.size+1≤(w1.alloc (hb s f c g p m)).heap.size:=by simp
 clear b1 RD T0 B0
 cases o
 ·obtain⟨t0,t1,t2,t3,t4,t5,t6,tf⟩:=chAt_cells T1
  have f0:=tf 0;have f1:=tf 1;have f2:=tf 2;have f3:=tf 3;have f4:=tf 4;have f5:=tf 5;have f6:=tf 6
  have T2:Hid _:=seven_set T1 0 0 0 0 false false (.slice none 0 0)
  have B2:Hid _:=seven_below B1 (Nat.le_refl _) 0 0 0 0 false false (.slice none 0 0)
  have ER:Hid _:=RES0.out (HCH.out rfl)
  clear B1 tf T1 HCH HBY RES0 RES1
  go_wp2
  refine bodyPost_ret (v:=noChunk) (res_chunk_one rfl rfl rfl T2) rfl ⟨?_,B2⟩
  rw[ER.out]
 ·have HBY2:Hid _:=HBY.out rfl
  clear HBY
  obtain⟨n0,n1,n2,n3,n4,n5,nf⟩:=headAt_cells N1
  go_wp2_with fail
  generalize hY:w1.alloc (Obj.cells #[.int .i64 s,.int .i64 f,.int .i64 c,.int .i64 g,.bool p,.bool m] 54)=Y at *
  clear hY n0 n1 n2 n3 n4 n5 nf
  refine (SB _ B1).mono ?_
  clear SB
  rintro e w2 ⟨rfl,b2⟩
  have s2:=b2.size
  have T2:=chAt_below (show ChAt Y w.heap.size 0 0 0 0 false false (.slice none 0 0) from T1) b2
  have N2':=headAt_below (show HeadAt Y w1.heap.size s f c g p m from N1) b2
  have B2:=B1.trans (b2.mono (by omega))
  clear b2 B1 T1 N1
  go_wp2_with fail
  cases dc:cutOk xs.length k n
  ·have E0:ch=0:=by rw[HBY2.out,dc];simp
   have ER:Hid _:=RES0.out E0
   clear HBY2 HCH RES0 RES1 E0
   refine (cut_no hlc hcm k n ⟨by omega,by omega⟩ NI dc).mono ?_
   rintro e w3 ⟨rfl,hw3⟩
   rw[hw3]
   clear hw3 w3
   obtain⟨t0,t1,t2,t3,t4,t5,t6,tf⟩:=chAt_cells T2
   have f0:=tf 0;have f1:=tf 1;have f2:=tf 2;have f3:=tf 3;have f4:=tf 4;have f5:=tf 5;have f6:=tf 6
   have T3:Hid _:=seven_set T2 0 0 0 0 false false (.slice none 0 0)
   have B3:Hid _:=seven_below B2 (Nat.le_refl _) 0 0 0 0 false false (.slice none 0 0)
   clear B2 tf T2
   go_wp2
   refine bodyPost_ret (v:=noChunk) (res_chunk_one rfl rfl rfl T3) rfl ⟨?_,B3⟩
   rw[ER.out]
  ·obtain⟨c1,c2,c3⟩:=cutOk_true dc
   obtain⟨N,rfl⟩:=Int.eq_ofNat_of_zero_le c2
   refine (cut_yes hlc hcm k N (by omega)).mono ?_
   rintro e w3 ⟨rfl,hw3⟩
   rw[hw3]
   clear hw3 w3
   by_cases hN:N=0
   ·subst hN
    have E0:ch=0:=by rw[HBY2.out];simp
    have ER:Hid _:=RES0.out E0
    clear HBY2 HCH RES0 RES1 E0
    rw[piece_none]
    obtain⟨t0,t1,t2,t3,t4,t5,t6,tf⟩:=chAt_cells T2
    have f0:=tf 0;have f1:=tf 1;have f2:=tf 2;have f3:=tf 3;have f4:=tf 4;have f5:=tf 5;have f6:=tf 6
    have T3:Hid _:=seven_set T2 0 0 0 0 false false (.slice none 0 0)
    have B3:Hid _:=seven_below B2 (Nat.le_refl _) 0 0 0 0 false false (.slice none 0 0)
    clear B2 tf T2
    go_wp2
    refine bodyPost_ret (v:=noChunk) (res_chunk_one rfl rfl rfl T3) rfl ⟨?_,B3⟩
    rw[ER.out]
   ·have hN2:2≤N:=by omega
    rw[piece_at b off k N (by omega)]
    obtain⟨n0,n1,n2,n3,n4,n5,nf⟩:=headAt_cells N2'
    clear nf
    have hU:∀W:World,Below w.heap.size w W→W.cell? ⟨b,off+k+1,none⟩=some (.int .i64 (xs.getD (k+1) 0)):=fun W hW=>(hW.cell (p:=⟨b,off+k+1,none⟩) hblk).trans (HCY.out 1 (by omega))
    have hyI:=HYI.out 1 (by omega)
    have RES2:Hid (ch=(N:Int)→R = .tuple #[cv s f c g p m (.slice (some ⟨b,off+k,none⟩) N N),.bool true]):=fun e=>by
     rw[RES1.out (by omega),e,Int.toNat_natCast,piece_at b off k N (by omega)]
    generalize xs.getD (k+1) 0=y at *
    have HU:Hid _:=hU
    clear hU RES1 HCY HYI
    go_wp2_with fail
    refine (isNote_any s f c g p m _ _).mono ?_
    rintro e w4 ⟨rfl,hw4⟩
    have T4:=chAt_alloc (chAt_alloc T2 (cb s f c g p m (.slice (some ⟨b,off+k,none⟩) N N))) (cb s f c g p m (.slice (some ⟨b,off+k,none⟩) N N))
    have M4:=chAt_alloc (chAt_new w2 s f c g p m (.slice (some ⟨b,off+k,none⟩) N N)) (cb s f c g p m (.slice (some ⟨b,off+k,none⟩) N N))
    have B4:=(B2.alloc (by omega) (cb s f c g p m (.slice (some ⟨b,off+k,none⟩) N N))).alloc (by simp;omega) (cb s f c g p m (.slice (some ⟨b,off+k,none⟩) N N))
    rw[←hw4]at T4 M4 B4
    clear hw4 T2 N2' B2 n0 n1 n2 n3 n4 n5
    have cy:=HU.out _ B4
    clear HU
    obtain⟨t0,t1,t2,t3,t4,t5,t6,tf⟩:=chAt_cells T4
    have f0:=tf 0;have f1:=tf 1;have f2:=tf 2;have f3:=tf 3;have f4:=tf 4;have f5:=tf 5;have f6:=tf 6
    obtain⟨m0,m1,m2,m3,m4,m5,m6,mf⟩:=chAt_cells M4
    have T5:Hid _:=seven_set T4 0 0 0 0 false false (.slice none 0 0)
    have B5:Hid _:=seven_below B4 (Nat.le_refl _) 0 0 0 0 false false (.slice none 0 0)
    have T6:Hid _:=seven_set T4 s f c g p m (.slice (some ⟨b,off+k,none⟩) N N)
    have B6:Hid _:=seven_below B4 (Nat.le_refl _) s f c g p m (.slice (some ⟨b,off+k,none⟩) N N)
    clear tf mf T4 M4 B4
    by_cases h7:f=7
    ·subst h7
     cases dA:isA y
     ·have ER:Hid _:=RES0.out (show ch=0 by rw[HBY2.out,if_neg];rintro⟨_,_,h3⟩;exact absurd (h3 rfl) (by simp[dA]))
      clear RES0 RES2 HBY2 HCH T6 B6
      go_wp2_with (go_at_call 182;refine (isAddr_any _ _ hyI.1 hyI.2).mono ?_;rintro e w5 ⟨rfl,rfl⟩)
      refine bodyPost_ret (v:=noChunk) (res_chunk_one rfl rfl rfl T5) rfl ⟨?_,B5⟩
      rw[ER.out]
     ·have ER:Hid _:=RES2.out (show ch=(N:Int) by rw[HBY2.out,if_pos];exact⟨dc,by omega,fun _=>dA⟩)
      clear RES0 RES2 HBY2 HCH T5 B5
      go_wp2_with (go_at_call 182;refine (isAddr_any _ _ hyI.1 hyI.2).mono ?_;rintro e w5 ⟨rfl,rfl⟩)
      refine bodyPost_ret (v:=.tuple #[cv s 7 c g p m (.slice (some ⟨b,off+k,none⟩) N N),.bool true]) (res_chunk_one rfl rfl rfl T6) rfl ⟨?_,B6⟩
      rw[ER.out]
    ·have h7':(f==7)=false:=by simp[h7]
     have ER:Hid _:=RES2.out (show ch=(N:Int) by rw[HBY2.out,if_pos];exact⟨dc,by omega,fun h=>absurd h h7⟩)
     clear RES0 RES2 HBY2 HCH T5 B5
     go_wp2
     refine bodyPost_ret (v:=.tuple #[cv s f c g p m (.slice (some ⟨b,off+k,none⟩) N N),.bool true]) (res_chunk_one rfl rfl rfl T6) rfl ⟨?_,B6⟩
     rw[ER.out]
theorem chunkAt_in {xs:List Int} {k:Nat} (d:okAt xs k=true):chunkAt xs k=chunk xs k:=by unfold chunkAt;rw[if_pos d];rfl
theorem chunk_nat (xs:List Int) (k:Nat):((chunk xs k).toNat:Int)=chunk xs k:=Int.toNat_of_nonneg (chunk_le xs k).1
theorem implChunkAt (w:World) (v:Value) (xs:List Int) (i:Int) (h:IntsAt w v xs) (hl:xs.length≤1048576) (ha:AllI xs) (hi:I64 i) :
    Calls Tryz.prog 130 #[v,.int .i64 i] w fun e w'=>e = .returned (.int .i64 (chunkAt xs i))∧Below w.heap.size w w':=by
 cases d:okAt xs i
 ·have e:chunkAt xs i=0:=by unfold chunkAt;rw[d];rfl
  rw[e]
  have C:=chunkOf_out h hl i hi d
  clear e
  go_enter Tryz.func130,Tryz.ntmps130
  go_wp2_with fail
  refine C.mono ?_
  rintro e w1 ⟨rfl,b1⟩
  have B2:Hid _:=(b1.alloc b1.size (cb 0 0 0 0 false false (.slice none 0 0))).alloc (by simp;have:=b1.size;omega) (cb 0 0 0 0 false false (.slice none 0 0))
  clear b1 C
  go_wp2_with (go_at_call 78;refine (size_any _ _ _ _ _ _ _ _ _ _).mono ?_;rintro e w2 ⟨rfl,rfl⟩)
  go_ret
  exact⟨rfl,B2⟩
 ·obtain⟨k,rfl⟩:∃k:Nat,i=k:=by
    simp only[okAt,Bool.and_eq_true]at d
    exact Int.eq_ofNat_of_zero_le (atOk_true d.2).1
  rw[chunkAt_in d]
  have h':=h
  obtain⟨a,cap,rfl,_,_,_,_⟩:=h
  have C:=chunkOf_in h' hl ha k d
  unfold chRes at C
  have cn:=chunk_nat xs k
  by_cases e0:chunk xs k=0
  ·rw[if_pos e0]at C
   rw[e0]
   clear cn e0
   go_enter Tryz.func130,Tryz.ntmps130
   go_wp2_with fail
   refine C.mono ?_
   rintro e w1 ⟨rfl,b1⟩
   have B2:Hid _:=(b1.alloc b1.size (cb 0 0 0 0 false false (.slice none 0 0))).alloc (by simp;have:=b1.size;omega) (cb 0 0 0 0 false false (.slice none 0 0))
   clear b1 C
   go_wp2_with (go_at_call 78;refine (size_any _ _ _ _ _ _ _ _ _ _).mono ?_;rintro e w2 ⟨rfl,rfl⟩)
   go_ret
   exact⟨rfl,B2⟩
  ·rw[if_neg e0]at C
   rw[←cn]
   clear cn
   generalize (chunk xs k).toNat=N at *
   unfold piece at C
   generalize uS (xs.getD k 0)=s at *
   generalize uF (xs.getD k 0)=f at *
   generalize uC (xs.getD k 0)=c at *
   generalize uH (xs.getD k 0)=g at *
   generalize uP (xs.getD k 0)=p at *
   generalize uM (xs.getD k 0)=m at *
   generalize (if N=0 then a else Option.map (fun x=>x.add k) a)=ad at *
   clear e0
   go_enter Tryz.func130,Tryz.ntmps130
   go_wp2_with fail
   refine C.mono ?_
   rintro e w1 ⟨rfl,b1⟩
   have B2:Hid _:=(b1.alloc b1.size (cb s f c g p m (.slice ad N N))).alloc (by simp;have:=b1.size;omega) (cb s f c g p m (.slice ad N N))
   clear b1 C
   go_wp2_with (go_at_call 78;refine (size_any _ _ _ _ _ _ _ _ _ _).mono ?_;rintro e w2 ⟨rfl,rfl⟩)
   go_ret
   exact⟨rfl,B2⟩
end Go.Proofs.YtocidankimefpaaGreatDoor.walks
namespace Go.Proofs.YtocidankimefpaaGreatDoor.walks
open Go.RowKit rows heads words
abbrev Pl:=Fin 1001
def pls (ys:List Int):Nat→Nat→List Pl
 |0,_=>[]
 |n+1,k=>if h:k≤1000 then (if chunk ys k=0 then [] else ⟨k,by omega⟩ :: pls ys n (k+(chunk ys k).toNat)) else []
theorem pls_end {ys:List Int} {k:Nat} (n:Nat) (h:chunk ys k=0):pls ys n k=[]:=by
 cases n with
 |zero=>rfl
 |succ n=>
  unfold pls
  by_cases hk:k≤1000
  ·rw[dif_pos hk,if_pos h]
  ·rw[dif_neg hk]
theorem pls_step {ys:List Int} {k:Nat} (n:Nat) (hk:k<1001) (h:chunk ys k≠0):pls ys (n+1) k=⟨k,hk⟩ :: pls ys n (k+(chunk ys k).toNat):=by
 conv=>lhs;unfold pls
 rw[dif_pos (by omega),if_neg h]
theorem pls_more (ys:List Int) (hl:ys.length≤1000):∀(n m k:Nat),ys.length-k≤n→ys.length-k≤m→pls ys n k=pls ys m k:=by
 intro n
 induction n with
 |zero=>
  intro m k h _
  have:=chunk_bounds ys k
  rw[pls_end _ (by omega),pls_end _ (by omega)]
 |succ n ih=>
  intro m k h h'
  have:=chunk_bounds ys k
  by_cases h0:chunk ys k=0
  ·rw[pls_end _ h0,pls_end _ h0]
  ·obtain⟨m',rfl⟩:∃m',m=m'+1:=⟨m-1,by omega⟩
   rw[pls_step n (by omega) h0,pls_step m' (by omega) h0,ih m' _ (by omega) (by omega)]
def plO (ys:List Int) (k:Nat):List Pl:=pls ys (ys.length-k) k
theorem plO_end {ys:List Int} {k:Nat} (h:chunk ys k=0):plO ys k=[]:=pls_end _ h
theorem plO_step {ys:List Int} {k:Nat} (hl:ys.length≤1000) (hk:k<1001) (h:chunk ys k≠0):plO ys k=⟨k,hk⟩ :: plO ys (k+(chunk ys k).toNat):=by
 have:=chunk_bounds ys k
 unfold plO
 obtain⟨m,hm⟩:∃m,ys.length-k=m+1:=⟨ys.length-k-1,by omega⟩
 rw[hm,pls_step m hk h,pls_more ys hl m (ys.length-(k+(chunk ys k).toNat)) _ (by omega) (by omega)]
theorem pls_length (ys:List Int):∀(n k:Nat),(pls ys n k).length≤n:=by
 intro n
 induction n with
 |zero=>intro k;simp[pls]
 |succ n ih=>
  intro k
  unfold pls
  split
  ·split
   ·simp
   ·have:=ih (k+(chunk ys k).toNat);simp;omega
  ·simp
theorem plO_length (ys:List Int) (k:Nat):(plO ys k).length≤ys.length:=Nat.le_trans (pls_length ys _ _) (by omega)
def enf (ys:List Int) (e:Int) (l:List Pl):Int:=l.foldl (fun _ x=>(x.val:Int)+chunk ys x.val) e
theorem enf_snoc (ys:List Int) (e:Int) (l:List Pl) (x:Pl):enf ys e (l++[x])=(x.val:Int)+chunk ys x.val:=by simp[enf]
theorem enf_cons (ys:List Int) (e:Int) (x:Pl) (l:List Pl):enf ys e (x :: l)=enf ys ((x.val:Int)+chunk ys x.val) l:=rfl
theorem chunk_take {xs:List Int} {k t:Nat} (hk:k<t) (ht:t≤xs.length):chunk (xs.take t) k=if chunk xs k=0∨(k:Int)+chunk xs k > t then 0 else chunk xs k:=by
 have e0:(xs.take t).getD k 0=xs.getD k 0:=by simp[List.getD_eq_getElem?_getD,hk]
 have e1:k+1<t→(xs.take t).getD (k+1) 0=xs.getD (k+1) 0:=fun h=>by simp[List.getD_eq_getElem?_getD,h]
 have el:(xs.take t).length=t:=by simp;omega
 have bs:=uS_bounds (xs.getD k 0)
 have zs:=sz_bounds bs.1 bs.2
 unfold chunk
 rw[e0,el]
 by_cases ho:(ok (xs.getD k 0) && !uM (xs.getD k 0))=true
 ·simp only[if_pos ho]
  by_cases h6:uF (xs.getD k 0)=6
  ·simp only[if_pos h6]
   by_cases hk1:k+1<t
   ·rw[e1 hk1]
    have hk2:k+1<xs.length:=by omega
    generalize xs.getD (k+1) 0=y
    by_cases hf:freeOk t k y=true
    ·have hf':=hf
     simp only[freeOk,decide_eq_true_eq]at hf'
     have hg:freeOk xs.length k y=true:=by simp only[freeOk,decide_eq_true_eq];omega
     have L:(if k+1<t∧freeOk t k y=true then y else 0)=y:=if_pos ⟨hk1,hf⟩
     have R:(if k+1<xs.length∧freeOk xs.length k y=true then y else 0)=y:=if_pos ⟨hk2,hg⟩
     rw[L,R,if_neg]
     omega
    ·have L:(if k+1<t∧freeOk t k y=true then y else 0)=0:=if_neg (fun h=>hf h.2)
     simp only[freeOk,decide_eq_true_eq]at hf
     by_cases hg:freeOk xs.length k y=true
     ·have hg':=hg
      simp only[freeOk,decide_eq_true_eq]at hg'
      have R:(if k+1<xs.length∧freeOk xs.length k y=true then y else 0)=y:=if_pos ⟨hk2,hg⟩
      rw[L,R,if_pos]
      omega
     ·have R:(if k+1<xs.length∧freeOk xs.length k y=true then y else 0)=0:=if_neg (fun h=>hg h.2)
      rw[L,R,if_pos (.inl rfl)]
   ·generalize (xs.take t).getD (k+1) 0=y'
    generalize xs.getD (k+1) 0=y
    have L:(if k+1<t∧freeOk t k y'=true then y' else 0)=0:=if_neg (fun h=>hk1 h.1)
    rw[L]
    by_cases hg:k+1<xs.length∧freeOk xs.length k y=true
    ·have hg':=hg.2
     simp only[freeOk,decide_eq_true_eq]at hg'
     have R:(if k+1<xs.length∧freeOk xs.length k y=true then y else 0)=y:=if_pos hg
     rw[R,if_pos]
     omega
    ·have R:(if k+1<xs.length∧freeOk xs.length k y=true then y else 0)=0:=if_neg hg
     rw[R,if_pos (.inl rfl)]
  ·simp only[if_neg h6]
   by_cases hc:(k:Int)+sz (uS (xs.getD k 0))≤t
   ·rw[e1 (by omega)]
    generalize sz (uS (xs.getD k 0))=z at *
    by_cases h7:uF (xs.getD k 0)=7→isA (xs.getD (k+1) 0)=true
    ·have L:(if (k:Int)+z≤t∧(uF (xs.getD k 0)=7→isA (xs.getD (k+1) 0)=true) then z else 0)=z:=if_pos ⟨hc,h7⟩
     have R:(if (k:Int)+z≤xs.length∧(uF (xs.getD k 0)=7→isA (xs.getD (k+1) 0)=true) then z else 0)=z:=if_pos ⟨by omega,h7⟩
     rw[L,R,if_neg]
     omega
    ·have L:(if (k:Int)+z≤t∧(uF (xs.getD k 0)=7→isA (xs.getD (k+1) 0)=true) then z else 0)=0:=if_neg (fun h=>h7 h.2)
     have R:(if (k:Int)+z≤xs.length∧(uF (xs.getD k 0)=7→isA (xs.getD (k+1) 0)=true) then z else 0)=0:=if_neg (fun h=>h7 h.2)
     rw[L,R,if_pos (.inl rfl)]
   ·generalize sz (uS (xs.getD k 0))=z at *
    generalize (xs.take t).getD (k+1) 0=y'
    have L:(if (k:Int)+z≤t∧(uF (xs.getD k 0)=7→isA y'=true) then z else 0)=0:=if_neg (fun h=>hc h.1)
    rw[L]
    by_cases hg:(k:Int)+z≤xs.length∧(uF (xs.getD k 0)=7→isA (xs.getD (k+1) 0)=true)
    ·have R:(if (k:Int)+z≤xs.length∧(uF (xs.getD k 0)=7→isA (xs.getD (k+1) 0)=true) then z else 0)=z:=if_pos hg
     rw[R,if_pos]
     omega
    ·have R:(if (k:Int)+z≤xs.length∧(uF (xs.getD k 0)=7→isA (xs.getD (k+1) 0)=true) then z else 0)=0:=if_neg hg
     rw[R,if_pos (.inl rfl)]
 ·simp only[if_neg ho];simp
theorem walk_by {xs:List Int} {t:Nat} (ht:t≤xs.length) (hm:t≤1000):∀(n k:Nat),t-k≤n→k≤t →
    walkO xs k t=if enf (xs.take t) k (plO (xs.take t) k)=t then some ((plO (xs.take t) k).map (fun p=>(p.val:Int))) else none:=by
 have el:(xs.take t).length=t:=by simp;omega
 intro n
 induction n with
 |zero=>
  intro k h1 h2
  have ek:k=t:=by omega
  subst ek
  have:=chunk_bounds (xs.take k) k
  rw[walkO_end (by omega),plO_end (by omega)]
  simp[enf]
 |succ n ih=>
  intro k h1 h2
  by_cases hk:k<t
  ·have ct:=chunk_take hk ht
   by_cases hb:chunk xs k=0∨(k:Int)+chunk xs k > t
   ·rw[if_pos hb]at ct
    rw[walkO_bad hk hb,plO_end ct,if_neg]
    simp[enf];omega
   ·rw[if_neg hb]at ct
    have:=chunk_bounds xs k
    rw[walkO_step hk hb,plO_step (by omega) (show k<1001 by omega) (by omega),enf_cons,ct,ih _ (by omega) (by omega)]
    have e:((k:Int)+chunk xs k)=((k+(chunk xs k).toNat:Nat):Int):=by omega
    rw[e]
    split<;>simp
  ·have ek:k=t:=by omega
   subst ek
   have:=chunk_bounds (xs.take k) k
   rw[walkO_end hk,plO_end (by omega)]
   simp[enf]
end Go.Proofs.YtocidankimefpaaGreatDoor.walks
namespace Go.Proofs.YtocidankimefpaaGreatDoor.walks
open Go.RowKit Go.Shelf rows heads words
attribute [local go_sem] Oper.semAt_some
abbrev encs (a:Option Addr) (ys:List Int) (x:Pl):Array Value:=
 #[.int .i64 (x.val:Int),cv (uS (ys.getD x.val 0)) (uF (ys.getD x.val 0)) (uC (ys.getD x.val 0)) (uH (ys.getD x.val 0)) (uP (ys.getD x.val 0)) (uM (ys.getD x.val 0)) (piece a x.val (chunk ys x.val).toNat)]
def Kc (n₀ Br:Nat) (W W':World):Prop:=Below n₀ W W'∧W'.heap[Br]? = W.heap[Br]? ∧ ∀(b:Nat) (cs:Array Value),W.heap[b]? = some (Obj.cells cs 56 (0,0))→W'.heap[b]? = some (Obj.cells cs 56 (0,0))
theorem kc_t {n₀ Br:Nat} {A B C:World} (h:Kc n₀ Br A B) (k:Kc n₀ Br B C):Kc n₀ Br A C:=⟨h.1.trans k.1,k.2.1.trans h.2.1,fun b cs e=>k.2.2 b cs (h.2.2 b cs e)⟩
theorem kc_b {n₀ Br:Nat} {w:World} (hn:n₀≤w.heap.size) (hB:Br<w.heap.size) (W:World) (l:Nat) (o o':Obj) (hl:w.heap.size≤l) (h:W.heap[l]? = some o) (hc:o.isCells=false) (hw:o.isWalk=false):Kc n₀ Br W (W.putObj l o'):=
 ⟨belowK_b hn W l o o' hl h hc hw,World.putObj_heap_other (by omega),fun b cs e=>by
  have hne:b≠l:=fun e'=>by subst e';rw[h]at e;cases e;cases hc
  exact (World.putObj_heap_other hne).trans e⟩
theorem grown_of_below {W W':World} (h:Below W.heap.size W W'):W.grownBy W' none:=⟨h.os,h.tape,h.output,h.size,fun i hi _=>h.block i hi⟩
set_option maxRecDepth 100000 in
set_option maxHeartbeats 4000000 in
theorem chunks1_in (n:Nat) (hn:2≤n) (l Br Bf n₀ f:Nat) (a:Option Addr) (cap:Nat) (ys:List Int) (hl:ys.length≤1000) (ha:AllI ys) (hf:f≤1000) (J Jx:List Pl→World→Prop)
    (hY:∀pre x W,J pre W→pre.length<(plO ys f).length→YieldAt Fence.wide (n-1) Tryz.prog l (encs a ys x) W fun e W'=>
     (e = .returned (.bool true)∧J (pre++[x]) W'∧Kc n₀ Br W W')∨(e = .returned (.bool false)∧Jx (pre++[x]) W'))
    (W0:World) (hJ:AbidesFrom W0.heap.size J) (hBr:Boxed W0 Br 22 (.slice a ys.length cap)) (hBf:W0.cell? ⟨Bf,0,none⟩=some (.int .i64 f)) (hI:∀W,Below n₀ W0 W→IntsAt W (.slice a ys.length cap) ys) (h0:J [] W0) (hn₀:n₀≤W0.heap.size) :
    CallsIn Fence.wide n Tryz.prog 187 #[.func (.yield l) #[] #[],.pointer (some ⟨Bf,0,none⟩),.pointer (some ⟨Br,0,none⟩)] W0 fun e W'=>(∃v,e = .returned v) ∧
     ((∃zs,zs=plO ys f∧J zs W')∨(∃pre,pre <+: plO ys f∧Jx pre W')):=by
 refine callsIn_of_wp Tryz.func187 rfl trivial ?_ rfl
 simp only[Tryz.ntmps187,List.size_toArray,List.length_cons,List.length_nil,Nat.reduceAdd,Nat.reduceSub,Array.replicate_succ,Array.replicate_zero,List.push_toArray,List.append_toArray,List.nil_append,List.cons_append]
 gi_wp2
 gi_loopw [4] (fun p wr=>∃(pre:List Pl) (k:Nat),p = .int .i64 (k:Int)∧k≤1000∧plO ys f=pre++plO ys k∧J pre wr∧Below n₀ W0 wr∧Boxed wr Br 22 (.slice a ys.length cap))
  (fun p _=>1001-(intOf p).toNat)
 case atStart=>
  exact⟨[],f,rfl,hf,rfl,h0,Below.refl _ _,hBr⟩
 case round=>
  obtain⟨pre,k,rfl,hk,hL,hJs,hB,bR⟩:=hrel
  have cR:=bR.cell
  have h1:1≤n:=by omega
  cases d:okAt ys k
  ·have e0:chunk ys k=0:=by
     have:=chunk_bounds ys k
     simp[okAt,rowOk,atOk]at d
     omega
   have C:=callsIn_wide (n:=n-1).2 (chunkOf_out (hI wr hB) (by omega) k ⟨by omega,by omega⟩ d)
   clear hY hI
   gi_wp2_with fail
   refine⟨trivial,C.mono ?_⟩
   rintro e w1 ⟨rfl,b1⟩
   have hJ1:=hJ pre wr _ none hJs (grown_of_below (b1.alloc b1.size (cb 0 0 0 0 false false (.slice none 0 0)))) (fun _ e=>by cases e)
   have HE:Hid _:=hJ1
   clear b1 C hJ1 hJ hJs
   gi_wp2
   refine⟨fun _ h=>(by cases h),?_⟩
   gi_wp2
   refine bodyPost_ret (results_none rfl _ _ _) rfl ?_
   exact⟨⟨_,rfl⟩,.inl ⟨pre,by rw[hL,plO_end e0,List.append_nil],HE⟩⟩
  ·have C:=callsIn_wide (n:=n-1).2 (chunkOf_in (hI wr hB) (by omega) ha k d)
   unfold chRes at C
   by_cases e0:chunk ys k=0
   ·rw[if_pos e0]at C
    clear hY hI
    gi_wp2_with fail
    refine⟨trivial,C.mono ?_⟩
    rintro e w1 ⟨rfl,b1⟩
    have hJ1:=hJ pre wr _ none hJs (grown_of_below (b1.alloc b1.size (cb 0 0 0 0 false false (.slice none 0 0)))) (fun _ e=>by cases e)
    have HE:Hid _:=hJ1
    clear b1 C hJ1 hJ hJs
    gi_wp2
    refine⟨fun _ h=>(by cases h),?_⟩
    gi_wp2
    refine bodyPost_ret (results_none rfl _ _ _) rfl ?_
    exact⟨⟨_,rfl⟩,.inl ⟨pre,by rw[hL,plO_end e0,List.append_nil],HE⟩⟩
   ·rw[if_neg e0]at C
    have hpl:=plO_step hl (show k<1001 by omega) e0
    have hlt:pre.length<(plO ys f).length:=by rw[hL,hpl];simp
    have hY1:=fun W hW=>hY pre ⟨k,by omega⟩ W hW hlt
    have cn:=chunk_nat ys k
    have cb2:=chunk_bounds ys k
    have hL2:plO ys f=(pre++[⟨k,by omega⟩])++plO ys (k+(chunk ys k).toNat):=by rw[hL,hpl];simp
    simp only[encs]at hY1
    rw[hpl]at hL
    unfold piece at hY1 C
    generalize hN:(chunk ys k).toNat=N at *
    have hNk:k+N≤1000:=by omega
    have hN2:2≤N:=by omega
    clear hY cn cb2 e0 hN
    generalize uS (ys.getD k 0)=s at *
    generalize uF (ys.getD k 0)=ff at *
    generalize uC (ys.getD k 0)=c at *
    generalize uH (ys.getD k 0)=g at *
    generalize uP (ys.getD k 0)=p at *
    generalize uM (ys.getD k 0)=m at *
    generalize (if N=0 then a else Option.map (fun x=>x.add k) a)=ad at *
    gi_wp2_with fail
    refine⟨trivial,C.mono ?_⟩
    rintro e w1 ⟨rfl,b1⟩
    have hJ1:=hJ pre wr _ none hJs (grown_of_below (b1.alloc b1.size (cb s ff c g p m (.slice ad N N)))) (fun _ e=>by cases e)
    have HB1:=(hB.trans (b1.mono (Nat.le_trans hn₀ hB.size))).alloc (Nat.le_trans (Nat.le_trans hn₀ hB.size) b1.size) (cb s ff c g p m (.slice ad N N))
    have bR1:Boxed (w1.alloc (cb s ff c g p m (.slice ad N N))) Br 22 (.slice a ys.length cap):=bR.kept (grown_of_below (b1.alloc b1.size (cb s ff c g p m (.slice ad N N)))) (by simp)
    have M1:=chAt_new w1 s ff c g p m (.slice ad N N)
    obtain⟨fn,tmps,assign,body,hy,hR⟩:=hY1 _ hJ1
    have HB:Hid _:=HB1
    have HBX:Hid _:=bR1
    have HM:Hid _:=M1
    have HJ:Hid _:=hJ
    clear b1 C hJs hB bR cR hY1 hJ1 HB1 bR1 M1 hJ
    gi_wp2
    refine hR.mono ?_
    rintro e W3 (⟨rfl,hJ3,hk3⟩|⟨rfl,hJx3⟩)
    ·have M3:ChAt W3 w1.heap.size s ff c g p m (.slice ad N N):=hk3.2.2 _ _ HM.out
     have HB3:Hid _:=HB.out.trans hk3.1
     have HR3:Hid (Boxed W3 Br 22 (.slice a ys.length cap)):=hk3.2.1.trans HBX.out
     have HJ4:Hid _:=HJ.out _ W3 _ none hJ3 (grown_of_below ((Below.refl _ W3).alloc (Nat.le_refl _) (cb s ff c g p m (.slice ad N N)))) (fun _ e=>by cases e)
     have HB4:Hid _:=HB3.out.alloc (Nat.le_trans hn₀ HB3.out.size) (cb s ff c g p m (.slice ad N N))
     have HR4:Hid _:=HR3.out.alloc (cb s ff c g p m (.slice ad N N))
     obtain⟨m0,m1,m2,m3,m4,m5,m6,mf⟩:=chAt_cells M3
     clear HB HBX HM hR hy M3 hk3 hJ3 mf HJ HB3 HR3
     gi_wp2_with fail
     refine⟨trivial,(callsIn_wide.2 (size_any s ff c g p m ad N N W3)).mono ?_⟩
     rintro e W4 ⟨rfl,rfl⟩
     gi_wp2
     go_roundw
     case rel=>exact⟨_,k+N,by go_num,hNk,hL2,HJ4,HB4,HR4⟩
     case measure=>simp[intOf];omega
    ·gi_wp2
     refine bodyPost_ret (results_none rfl _ _ _) rfl ?_
     exact⟨⟨_,rfl⟩,.inr ⟨_,⟨plO ys (k+N),hL2.symm⟩,hJx3⟩⟩
theorem chunks_any (a:Option Addr) (len cap:Nat) (f:Int) (w:World) :
    Calls Tryz.prog 163 #[.slice a len cap,.int .i64 f] w fun e w'=>e = .returned (.func (.func 187) #[] #[.pointer (some ⟨w.heap.size+1,0,none⟩),.pointer (some ⟨w.heap.size,0,none⟩)])∧w'=(w.alloc (.cells #[.slice a len cap] 22)).alloc (.cells #[.int .i64 f] 2):=by
 go_enter Tryz.func163,Tryz.ntmps163
 go_wp2
 go_ret
 exact⟨rfl,rfl⟩
theorem chunks_stops (n:Nat) (hn:2≤n) (Br Bf n₀ f:Nat) (a:Option Addr) (cap:Nat) (ys:List Int) (hl:ys.length≤1000) (ha:AllI ys) (hf:f≤1000) (w:World) (h1:Br<w.heap.size) (h2:Bf<w.heap.size) (hn₀:n₀≤w.heap.size)
    (hBr:Boxed w Br 22 (.slice a ys.length cap)) (hBf:w.cell? ⟨Bf,0,none⟩=some (.int .i64 f)) (hI:∀W,Below n₀ w W→IntsAt W (.slice a ys.length cap) ys) :
    SeqStopsK Fence.wide n Tryz.prog 187 #[.pointer (some ⟨Bf,0,none⟩),.pointer (some ⟨Br,0,none⟩)] (encs a ys) (Kc n₀ Br) (fun zs=>zs=plO ys f) (fun pre=>pre <+: plO ys f) (plO ys f).length w:=fun l J Jx W hW hJ _ hY h0=>
 chunks1_in n hn l Br Bf n₀ f a cap ys hl ha hf J Jx hY W hJ ((hW.block Br h1).trans hBr) ((hW.cell (p:=⟨Bf,0,none⟩) h2).trans hBf) (fun W' hW'=>hI W' ((hW.mono hn₀).trans hW')) h0 (Nat.le_trans hn₀ hW.size)
end Go.Proofs.YtocidankimefpaaGreatDoor.walks
