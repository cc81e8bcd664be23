/- Chapter 7 as the specification has it: l -/
import Derived.Test.YtocidankimefpaaGreatDoorM14
set_option linter.unusedVariables false
set_option maxRecDepth 100000
namespace Go.Proofs.YtocidankimefpaaGreatDoor.gr
open Go.RowKit rows heads region
abbrev jb (os:List Ob) (ps:List Nat):List Int:=ps.map fun p=>(os.getD p obD).id
abbrev jH (os:List Ob) (ps:List Nat):List Int:=ps.map fun p=>(os.getD p obD).hash
theorem IG (b:Nat) (w:World):(Instr.fieldAt 60 (.pointer (some ⟨b,0,none⟩)) 0).run Tryz.prog w = .ok (.pointer (some ⟨b,0,none⟩)) w:=by
 go_simp
theorem II (b:Nat) (w:World):(Instr.fieldAt 60 (.pointer (some ⟨b,0,none⟩)) 3).run Tryz.prog w = .ok (.pointer (some ⟨b,3,none⟩)) w:=by
 go_simp
theorem zA {g n c i:Nat} (hi:(i:Int)≤n) (hc:(n:Int)≤c) (hm:c≤9223372036854775807) (w:World):(Instr.sliceAt 22 (.slice (some ⟨g,0,none⟩) n c) none (some (.int .i64 (i:Int))) none).run Tryz.prog w = .ok (.slice (some ⟨g,0,none⟩) i c) w:=by
 have h2:(i:Int)≤c:=by omega
 go_simp
set_option maxHeartbeats 16000000 in
theorem rW {w:World} {o r m:Value} {ms:List MO} {G:Gr} (h:gy w o r m ms G) (hok:gOk G=true) {ps:List Nat} (hz:IsG G ps) :
    Calls Tryz.prog 93 #[gv o r m G.next G.seed] w fun e w'=>∃v,e = .returned v∧rows.Own w' w.heap.size v (jb G.objs ps)∧Below w.heap.size w w':=by
 obtain⟨f,hf⟩:∃f:Nat→Bool,∀p,f p=true↔Grv G p:=by
  classical
  exact⟨fun p=>decide (Grv G p),fun p=>by simp⟩
 have hps:ps=sortG G.objs f G.objs.length:=fT hz (tP hok fun p _=>hf p);obtain⟨a1,n1,c1,a2,n2,c2,a3,n3,c3,e1,e2,e3⟩:=bq h;subst e1 e2 e3;obtain⟨ao,co,eo,_⟩:=h.2.1.1;injection eo with e1 e2 e3
 subst e1 e2 e3;obtain⟨ys,hy⟩:=Fg G;have B:Below w.heap.size w (w.alloc (gb (.slice a1 ms.length c1) (.slice a2 n2 c2) (.slice a3 n3 c3) G.next G.seed)):=(Below.refl _ w).alloc (Nat.le_refl _) _;have T:=fX w 50 (.slice a1 ms.length c1) (.slice a2 n2 c2) (.slice a3 n3 c3) (.int .i64 G.next) (.int .i64 G.seed);have L7:=tX (lT h B) hok hy;have hlen:=jg h;have hms:ms.length≤500:=by rw[hlen];exact (gu hok).1
 have hyl:ys.length≤500:=Nat.le_trans (FK hy) (gu hok).1;have HG:Hid _:=h;have HOK:Hid _:=hok;have HF:Hid _:=hf;have HPS:Hid _:=hps;have HY:Hid _:=hy;have HB:Hid _:=B;have HT:Hid _:=T;have HLEN:Hid _:=hlen;clear h hok hf hps hy B T hlen hz;go_enter Tryz.func93,Tryz.ntmps93;go_wp2_with fail;generalize hX:(w.alloc (gb (.slice a1 ms.length c1) (.slice a2 n2 c2) (.slice a3 n3 c3) G.next G.seed))=X at *;clear hX;refine L7.mono ?_;rintro e w1 ⟨v1,rfl,O1,b1⟩
 obtain⟨ra,rc,hrv⟩:∃a c,v1 = .slice a ys.length c:=by
  obtain⟨a,c,e,_⟩:=aj O1;exact⟨a,c,e⟩
 subst hrv;have B1:=HB.out.trans (b1.mono HB.out.size);have T1:=aJ HT.out b1;have N2:Below w1.heap.size w1 ((w1.alloc (.cells #[] 2)).alloc (.cells #[] 2)):=((Below.refl _ _).alloc (Nat.le_refl _) _).alloc (by simp) _;have HR2:Hid _:=aj (aB O1 N2);have HB2:Hid _:=B1.trans (N2.mono B1.size);have HT2:Hid _:=aJ T1 N2;have HO4:Hid (rows.Own ((w1.alloc (.cells #[] 2)).alloc (.cells #[] 2)) w.heap.size (.slice (some ⟨w1.heap.size,0,none⟩) 0 0) []):=⟨rfl,.inr ⟨w1.heap.size,0,#[],rfl,B1.size,(Below.heap_alloc _ _ _ (by simp)).trans (heap_alloc_new w1 _),Nat.le_refl _,by decide,rfl,rfl⟩⟩;have HO5:Hid (rows.Own ((w1.alloc (.cells #[] 2)).alloc (.cells #[] 2)) w.heap.size (.slice (some ⟨w1.heap.size+1,0,none⟩) 0 0) []):=⟨rfl,.inr ⟨w1.heap.size+1,0,#[],rfl,Nat.le_succ_of_le B1.size,D4 (by simp),Nat.le_refl _,by decide,rfl,rfl⟩⟩;clear L7 HB HT B1 T1 N2 O1 b1;go_wp2_with fail;generalize hX2:((w1.alloc (.cells #[] 2)).alloc (.cells #[] 2))=X2 at *;clear hX2;go_loopw [4,5,6] (fun v u p wr=>∃(k:Nat) (g4 c4 g5 c5:Nat),k≤ms.length∧p = .int .i64 k∧v = .slice (some ⟨g4,0,none⟩) (sortG G.objs f k).length c4∧u = .slice (some ⟨g5,0,none⟩) (sortG G.objs f k).length c5∧rows.Own wr w.heap.size (.slice (some ⟨g4,0,none⟩) (sortG G.objs f k).length c4) (jb G.objs (sortG G.objs f k))∧rows.Own wr w.heap.size (.slice (some ⟨g5,0,none⟩) (sortG G.objs f k).length c5) (jH G.objs (sortG G.objs f k))∧Below X2.heap.size X2 wr) (fun _ _ p _=>ms.length-(intOf p).toNat);case atStart=>exact⟨0,_,_,_,_,Nat.zero_le _,rfl,rfl,rfl,HO4.out,HO5.out,Below.refl _ _⟩
 case round=>
  clear HO4 HO5;obtain⟨k,g4,c4,g5,c5,hk,rfl,rfl,rfl,hO4,hO5,hB⟩:=hrel;have HO4:Hid _:=hO4;have HO5:Hid _:=hO5;have HBX:Hid _:=hB;obtain⟨q0,_⟩:=ak (aJ HT2.out hB);by_cases hlt:k<ms.length
  ·obtain⟨ao,co,eo,_,_,_,hco⟩:=cC HG.out.2.1.1 (HB2.out.trans (hB.mono HB2.out.size));injection eo with e1 e2 e3
   subst e1 e3;obtain⟨b1,off1,rfl,hb1,hcc1⟩:=hco (by omega);obtain⟨x0,x1,x2,x3,x4⟩:=hcc1 k hlt;have hmo:(ms.getD k moD).abs=G.objs.getD k obD:=fO HG.out k;have hsv:=aU (HG.out.2.1.2 _ (cZ hlt)) (HB2.out.trans (hB.mono HB2.out.size));obtain⟨sa,sc,hsl,_⟩:=id hsv;have hkG:k<G.objs.length:=by rw[←HLEN.out];exact hlt
   have hIdM:∀q,q<G.objs.length→((G.objs.getD q obD).id ∈ ys↔Rch G q):=fun q hq=>by
    rw[Bh HY.out];constructor
    ·rintro⟨p,hp,e⟩;rw[pC (fY HOK.out) (rX hp) hq e]at hp;exact hp
    ·intro hp;exact⟨q,hp,rfl⟩
   have HKEY:Hid ((ms.getD k moD).fmt=2→0<(ms.getD k moD).slots.length):=fun e=>by
    have h1:=(jQ HOK.out hkG (by rw[←hmo];exact e)).1;rw[←hmo]at h1;exact h1
   have HIN:Hid ((ms.getD k moD).id ∈ ys↔Rch G k):=by
    have:=hIdM k hkG
    rw[←hmo]at this;exact this
   have HFM:Hid ((G.objs.getD k obD).fmt=(ms.getD k moD).fmt):=by show _=_;rw[←hmo];rfl
   have HHS:Hid ((G.objs.getD k obD).hash=(ms.getD k moD).hash):=by show _=_;rw[←hmo];rfl
   have HID:Hid ((G.objs.getD k obD).id=(ms.getD k moD).id):=by show _=_;rw[←hmo];rfl
   have HKX:Hid ((ms.getD k moD).fmt=2→((ms.getD k moD).slots.getD 0 bU).1=2→∃q,awt G.objs (G.objs.getD k obD)=some q∧(((ms.getD k moD).slots.getD 0 bU).2 ∈ ys↔Rch G q)):=fun e1 e2=>by
    have hmm:=(jQ HOK.out hkG (by rw[←hmo];exact e1)).2;have hl:=gX HOK.out (.inr ⟨k,hkG,hmm⟩) (by rw[←hmo];exact e2);rw[←hmo]at hl;refine⟨cV G.objs ((ms.getD k moD).slots.getD 0 bU),?_,?_⟩
    ·unfold awt;rw[←hmo];exact if_pos ⟨e1,hl.1⟩
    ·have:=hIdM _ (gT hl.1)
     rw[hl.2]at this;exact this
   have HKN:Hid (¬((ms.getD k moD).slots.getD 0 bU).1=2→awt G.objs (G.objs.getD k obD)=none):=fun e=>by
    unfold awt;rw[if_neg];rintro⟨_,h2⟩;rw[←hmo]at h2;exact e (jJ h2)
   clear hmo hco hcc1 hIdM;generalize ms.getD k moD=mo at *;obtain⟨mi,mc,mf,mh,msv,msl⟩:=mo;simp only at x0 x1 x2 x3 x4 hsl hsv HKEY HIN HFM HHS HID HKX HKN;subst hsl;have BY:Below wr.heap.size wr (wr.alloc (ob ⟨mi,mc,mf,mh,.slice sa msl.length sc,msl⟩)):=(Below.refl _ _).alloc (Nat.le_refl _) _;have TY:=fX wr 60 (.int .i64 mi) (.int .i64 mc) (.int .i64 mf) (.int .i64 mh) (.slice sa msl.length sc);obtain⟨t0,t1,t2,t3,t4,_⟩:=ak TY;have HTY:Hid _:=TY;have HBY:Hid (Below X2.heap.size X2 (wr.alloc (ob ⟨mi,mc,mf,mh,.slice sa msl.length sc,msl⟩))):=hB.trans (BY.mono hB.size);have HRY:Hid _:=aa HR2.out HBY.out;have HY4:Hid _:=aB hO4 BY;have HY5:Hid _:=aB hO5 BY
   have HNO:Hid (f k=false→sortG G.objs f (k+1)=sortG G.objs f k):=fun e=>by
    show (if f k=true then _ else _)=_
    rw[e];rfl
   have HYES:Hid (f k=true→sortG G.objs f (k+1)=insG G.objs k (sortG G.objs f k)):=fun e=>by
    show (if f k=true then _ else _)=_
    rw[if_pos e]
   have hsn:=qH G.objs f k;have HFK:Hid _:=HF.out k;have HSVY:Hid _:=aU hsv BY;clear hO4 hO5 hB hsv BY TY e2 hkG;obtain⟨ss,hss⟩:∃ss,sortG G.objs f k=ss:=⟨_,rfl⟩
   rw[hss]at hsn;simp only[hss]at HO4 HO5 HY4 HY5 HNO HYES ⊢;have HSS:Hid _:=hss;clear hss;have HSKIP:Hid (f k=false→∃(k' g4' c4' g5' c5':Nat),k'≤ms.length∧Value.int .i64 ((k:Int)+1) = .int .i64 k'∧Value.slice (some ⟨g4,0,none⟩) ss.length c4 = .slice (some ⟨g4',0,none⟩) (sortG G.objs f k').length c4'∧Value.slice (some ⟨g5,0,none⟩) ss.length c5 = .slice (some ⟨g5',0,none⟩) (sortG G.objs f k').length c5'∧rows.Own (wr.alloc (ob ⟨mi,mc,mf,mh,.slice sa msl.length sc,msl⟩)) w.heap.size (.slice (some ⟨g4',0,none⟩) (sortG G.objs f k').length c4') (jb G.objs (sortG G.objs f k'))∧rows.Own (wr.alloc (ob ⟨mi,mc,mf,mh,.slice sa msl.length sc,msl⟩)) w.heap.size (.slice (some ⟨g5',0,none⟩) (sortG G.objs f k').length c5') (jH G.objs (sortG G.objs f k'))∧Below X2.heap.size X2 (wr.alloc (ob ⟨mi,mc,mf,mh,.slice sa msl.length sc,msl⟩))):=fun e=>⟨k+1,g4,c4,g5,c5,by omega,by simp,by rw[HNO.out e],by rw[HNO.out e],by rw[HNO.out e];exact HY4.out,by rw[HNO.out e];exact HY5.out,HBY.out⟩
   by_cases hf2:mf=2
   ·subst hf2;by_cases hi1:mi ∈ ys
    ·have HS1:=fC HRY.out (by omega) mi;rw[decide_eq_true hi1]at HS1;have h0:=HKEY.out rfl;obtain⟨a',cap',e,_,_,_,hc⟩:=id HSVY.out;injection e with e1 e2 e3
     subst e1 e3;obtain⟨b0,off0,rfl,hb0,hcc0⟩:=hc h0;obtain⟨r0,r1⟩:=hcc0 0 h0;rw[show off0+0*2=off0 by omega]at r0 r1;clear hc hcc0 e2;have h1n:(1:Int)≤(msl.length:Int):=by omega
     obtain⟨e0,he0⟩:∃e0,msl.getD 0 bU=e0:=⟨_,rfl⟩
     rw[he0]at r0 r1;rw[he0]at HKX HKN;obtain⟨k0,nk0⟩:=e0;simp only at r0 r1 HKX HKN;by_cases hk2:k0=2
     ·subst hk2;obtain⟨qq,haw,hqq⟩:=HKX.out (by trivial) (by trivial);have HS2:=fC HRY.out (by omega) nk0;by_cases hi2:nk0 ∈ ys
      ·rw[decide_eq_true hi2]at HS2
       have hfk:f k=false:=by
        cases e:f k
        ·rfl
        ·obtain⟨_,_,q',h1,h2⟩:=HFK.out.1 e;rw[haw]at h1;injection h1 with h1
         exact absurd (hqq.1 hi2) (by rw[h1];exact h2)
       have HX:Hid _:=HSKIP.out hfk;clear HSKIP HNO HYES HKX HKN HIN hqq haw hfk he0;go_wp2_with (first|(have hh:=HS1;clear hh;go_at_call 61;refine HS1.mono ?_;clear HS1;rintro e w4 ⟨rfl,hw4⟩;rw[hw4];clear hw4)|(go_at_call 61;refine HS2.mono ?_;clear HS2;rintro e w4 ⟨rfl,hw4⟩;rw[hw4];clear hw4));exact⟨HX.out,by simp[intOf];omega⟩
      ·rw[decide_eq_false hi2]at HS2;have hfk:f k=true:=HFK.out.2 ⟨HIN.out.1 hi1,HFM.out,qq,haw,fun e=>hi2 (hqq.2 e)⟩;have HX:Hid _:=HYES.out hfk;clear HSKIP HNO HYES HKX HKN HIN hqq haw hfk he0;go_wp2_with (first|(have hh:=HS1;clear hh;go_at_call 61;refine HS1.mono ?_;clear HS1;rintro e w4 ⟨rfl,hw4⟩;rw[hw4];clear hw4)|(go_at_call 61;refine HS2.mono ?_;clear HS2;rintro e w4 ⟨rfl,hw4⟩;rw[hw4];clear hw4));generalize hYY:(wr.alloc (ob ⟨mi,mc,2,mh,.slice (some ⟨b0,off0,none⟩) msl.length sc,msl⟩))=Y at *;generalize hP7:wr.heap.size=P7 at *;clear hYY t0 t1 t2 t4 q0 x0 x1 x2 x3 x4;obtain⟨a5,cp5,e5,hlc5,hcm5,_,hc5⟩:=aj HY5.out;rw[List.length_map]at e5 hlc5;injection e5 with e51 e52 e53
       subst e51 e53;obtain⟨a4,cp4,e4,hlc4,hcm4,_,_⟩:=aj HY4.out;rw[List.length_map]at e4 hlc4;injection e4 with e41 e42 e43
       subst e41 e43;have hcm5':c5≤9223372036854775807:=hcm5;have hcm4':c4≤9223372036854775807:=hcm4;have HC5:Hid _:=hc5;clear hc5 e52 e42;go_loopw [8] (fun p wz=>∃i:Nat,i≤ss.length∧p = .int .i64 i∧(∀j,j<i→(jH G.objs ss).getD j 0≤mh)∧∃q,wz=Y.drewN q) (fun p _=>ss.length-(intOf p).toNat);case atStart=>exact⟨0,Nat.zero_le _,rfl,fun j hj=>by omega,0,rfl⟩
       case round=>
        obtain⟨i,hi,rfl,hall,q,hwz⟩:=hrel;subst hwz;by_cases hgo:i<ss.length∧(jH G.objs ss).getD i 0≤mh
        ·obtain⟨hil,hle⟩:=hgo;obtain⟨b5,o5,e6,_,hcc5⟩:=HC5.out (by rw[List.length_map];omega);injection e6 with e6
         injection e6 with e61 e62
         subst e61 e62;have cc:=hcc5 i (by rw[List.length_map];exact hil);rw[Nat.zero_add]at cc
         have HV:Hid (∀j,j<i+1→(jH G.objs ss).getD j 0≤mh):=fun j hj=>by
          by_cases e:j=i
          ·rw[e];exact hle
          ·exact hall j (by omega)
         clear hcc5 hall;generalize (jH G.objs ss).getD i 0=hh at *;have hil':(i:Int)<(ss.length:Int):=by omega
         go_wp2_with fail;go_quiet (fail);go_wp2;exact⟨⟨i+1,by omega,by go_num,HV,_,rfl⟩,by simp[intOf];omega⟩
        ·by_cases hcase:i<ss.length
         ·have hle:¬(jH G.objs ss).getD i 0≤mh:=fun e=>hgo ⟨hcase,e⟩
          obtain⟨b5,o5,e6,_,hcc5⟩:=HC5.out (by rw[List.length_map];omega);injection e6 with e6
          injection e6 with e61 e62
          subst e61 e62;have cc:=hcc5 i (by rw[List.length_map];exact hcase);rw[Nat.zero_add]at cc;have HNLE:Hid _:=hle;clear hcc5;generalize hhx:(jH G.objs ss).getD i 0=hh at *;have hil':(i:Int)<(ss.length:Int):=by omega
          go_wp2_with fail;go_quiet (fail)
          have HP4:Hid (∀n o c,(o=i∧c=c4-i∨i=ss.length∧c4=i∧o=0∧c=0)→au (Y.drewN n) (.slice (some ⟨g4,o,none⟩) (ss.length-i) c) ((jb G.objs ss).drop i)):=by
           intro n o c h;rcases h with ⟨rfl,rfl⟩|⟨h1,h2,rfl,rfl⟩
           ·exact cQ (w:=Y) (b:=g4) (off:=0) (n:=ss.length) (cap:=c4) (aj HY4.out) hi (fun h=>by rw[Nat.zero_add]) (fun h=>by cases h)
           ·have:=cQ (w:=Y) (b:=g4) (off:=0) (n:=ss.length) (cap:=c4) (k:=i) (aj HY4.out) hi (a:=some ⟨g4,0,none⟩) (fun h=>by omega) (fun h=>by cases h)
            rw[show c4-i=0 by omega]at this;exact this
          have HP5:Hid (∀W o c,Below Y.heap.size Y W→(o=i∧c=c5-i∨i=ss.length∧c5=i∧o=0∧c=0)→au W (.slice (some ⟨g5,o,none⟩) (ss.length-i) c) ((jH G.objs ss).drop i)):=by
           intro W o c hW h;refine aa ?_ hW;rcases h with ⟨rfl,rfl⟩|⟨h1,h2,rfl,rfl⟩
           ·exact cQ (w:=Y) (b:=g5) (off:=0) (n:=ss.length) (cap:=c5) (aj HY5.out) hi (fun h=>by rw[Nat.zero_add]) (fun h=>by cases h)
           ·have:=cQ (w:=Y) (b:=g5) (off:=0) (n:=ss.length) (cap:=c5) (k:=i) (aj HY5.out) hi (a:=some ⟨g5,0,none⟩) (fun h=>by omega) (fun h=>by cases h)
            rw[show c5-i=0 by omega]at this;exact this
          have HQ4:Hid (∀n,au (Y.drewN n) (.slice (if c4=i then (some ⟨g4,0,none⟩:Option Addr) else some ⟨g4,i,none⟩) (ss.length-i) (c4-i)) ((jb G.objs ss).drop i)):=fun n=>cQ (w:=Y) (b:=g4) (off:=0) (n:=ss.length) (cap:=c4) (aj HY4.out) hi (fun h=>by rw[if_neg (by omega),Nat.zero_add]) (fun h=>by split at h<;>cases h)
          have HQ5:Hid (∀W,Below Y.heap.size Y W→au W (.slice (if c5=i then (some ⟨g5,0,none⟩:Option Addr) else some ⟨g5,i,none⟩) (ss.length-i) (c5-i)) ((jH G.objs ss).drop i)):=fun W hW=>aa (cQ (w:=Y) (b:=g5) (off:=0) (n:=ss.length) (cap:=c5) (aj HY5.out) hi (fun h=>by rw[if_neg (by omega),Nat.zero_add]) (fun h=>by split at h<;>cases h)) hW
          go_wp2_with (first
           |(refine aL (n:=ss.length-i) (xs:=(jb G.objs ss).drop i) ?_ (by omega) rfl (.tmp 69) (.tmp 72) rfl rfl rfl ?_;(first|exact HQ4.out _|exact HP4.out _ _ _ (Or.inl ⟨rfl,rfl⟩)|exact HP4.out _ _ _ (Or.inr ⟨by omega,by omega,rfl,rfl⟩));intro ga ca wa hga hOa hBa;(try generalize (if c4=i then (some ⟨g4,0,none⟩:Option Addr) else some ⟨g4,i,none⟩)=z4);have BYa:Below Y.heap.size Y wa:=⟨hBa.os,hBa.tape,hBa.output,hBa.size,hBa.block⟩;have HBYa:Hid _:=BYa;have HRa:Hid (au wa (.slice (some ⟨ga,0,none⟩) (ss.length-i) ca) ((jb G.objs ss).drop i)):=aj (gA hOa (by simp));clear hOa hBa hga BYa)
           |(refine aL (n:=ss.length-i) (xs:=(jH G.objs ss).drop i) ?_ (by omega) rfl (.tmp 74) (.tmp 77) rfl rfl rfl ?_;(first|exact HQ5.out _ HBYa.out|exact HP5.out _ _ _ HBYa.out (Or.inl ⟨rfl,rfl⟩)|exact HP5.out _ _ _ HBYa.out (Or.inr ⟨by omega,by omega,rfl,rfl⟩));intro gb' cb wb hgb hOb hBb;(try generalize (if c5=i then (some ⟨g5,0,none⟩:Option Addr) else some ⟨g5,i,none⟩)=z5);have HBYb:Hid (Below Y.heap.size Y wb):=HBYa.out.trans (hBb.mono HBYa.out.size);have HRa2:Hid _:=aa HRa.out hBb;have HRb:Hid (au wb (.slice (some ⟨gb',0,none⟩) (ss.length-i) cb) ((jH G.objs ss).drop i)):=aj (gA hOb (by simp));clear hOb hBb hgb))
          clear HQ4 HQ5 HP4 HP5;have TYb:=aJ HTY.out HBYb.out;have l7:=lt_of_block TYb;have f0:=(ak TYb).1;have szb:w.heap.size≤wb.heap.size:=Nat.le_trans HB2.out.size (Nat.le_trans HBY.out.size HBYb.out.size);have hT4:=aa (ib (aj HY4.out) hi) HBYb.out;go_cut [4] from 15 to 100 (fun v wx=>∃g c:Nat,v = .slice (some ⟨g,0,none⟩) (ss.length+1) c∧Hid (rows.Own wx w.heap.size (.slice (some ⟨g,0,none⟩) (ss.length+1) c) ((jb G.objs ss).take i++mi :: (jb G.objs ss).drop i))∧Hid (Below wb.heap.size wb wx))
          case first=>
           refine yX (s0:=79) (ls:=4) (rs:=9) (P7:=P7) (fd:=0) (kk:=i) (m:=ss.length-i) (x:=mi) (T:=(jb G.objs ss).take i) (D:=(jb G.objs ss).drop i) (lv:=.slice (some ⟨g4,0,none⟩) ss.length c4) (pv:=.slice (some ⟨g4,0,none⟩) i c4) (rv:=.slice (some ⟨ga,0,none⟩) (ss.length-i) ca) (a:=some ⟨g4,0,none⟩) (cap:=c4) (gr:=ga) (cr:=ca) (by simp) ?_ rfl ⟨_,rfl,rfl,rfl,by simp[Region.binds]⟩ ⟨_,rfl,rfl,rfl,by simp[Region.binds]⟩ ⟨_,rfl,rfl,rfl,by simp[Region.binds]⟩ ⟨_,rfl,rfl,rfl,by simp[Region.binds]⟩ ⟨_,rfl,rfl,rfl,by simp[Region.binds]⟩ ⟨_,rfl,rfl,rfl,by simp[Region.binds]⟩ ⟨_,rfl,rfl,rfl,by simp[Region.binds]⟩ ⟨_,rfl,rfl,rfl,by simp[Region.binds]⟩ ⟨_,rfl,rfl,rfl,by simp[Region.binds]⟩ ⟨_,rfl,rfl,rfl,by simp[Region.binds]⟩ ⟨_,rfl,rfl,rfl,by simp[Region.binds]⟩ ⟨_,rfl,rfl,rfl,by simp[Region.binds]⟩ (by decide) (by decide) (by decide) (by decide) (by decide) (by decide) (by simp) rfl rfl rfl rfl (zA (by omega) (by omega) (by omega)) (IG P7) l7 f0 rfl hT4 rfl HRa2.out (by omega) (by omega) ?_
           ·intro k' o' ho' e' he';have hk':k'<12:=(Array.getElem?_eq_some_iff.1 ho').1;rcases (show k'=0∨k'=1∨k'=2∨k'=3∨k'=4∨k'=5∨k'=6∨k'=7∨k'=8∨k'=9∨k'=10∨k'=11 by omega) with rfl|rfl|rfl|rfl|rfl|rfl|rfl|rfl|rfl|rfl|rfl|rfl
            all_goals
             injection ho' with ho'
             subst ho';simp at he';try omega
            all_goals
             first
              |(subst he';decide)
              |(rcases he' with rfl|rfl<;>decide)
              |(rcases he' with rfl|rfl|rfl<;>decide)
              |(rcases he' with rfl|rfl|rfl|rfl<;>decide)
              |(rcases he' with rfl|rfl|rfl|rfl|rfl<;>decide)
              |(rcases he' with rfl|rfl|rfl|rfl|rfl|rfl<;>decide)
              |(rcases he' with rfl|rfl|rfl|rfl|rfl|rfl|rfl<;>decide)
              |(rcases he' with rfl|rfl|rfl|rfl|rfl|rfl|rfl|rfl<;>decide)
              |(rcases he' with rfl|rfl|rfl|rfl|rfl|rfl|rfl|rfl|rfl<;>decide)
              |(rcases he' with rfl|rfl|rfl|rfl|rfl|rfl|rfl|rfl|rfl|rfl<;>decide)
              |(rcases he' with rfl|rfl|rfl|rfl|rfl|rfl|rfl|rfl|rfl|rfl|rfl<;>decide)
              |(rcases he' with rfl|rfl|rfl|rfl|rfl|rfl|rfl|rfl|rfl|rfl|rfl|rfl<;>decide)
              |(rcases he' with rfl|rfl|rfl|rfl|rfl|rfl|rfl|rfl|rfl|rfl|rfl|rfl|rfl<;>decide)
              |(rcases he' with rfl|rfl|rfl|rfl|rfl|rfl|rfl|rfl|rfl|rfl|rfl|rfl|rfl|rfl<;>decide)
              |(rcases he' with rfl|rfl|rfl|rfl|rfl|rfl|rfl|rfl|rfl|rfl|rfl|rfl|rfl|rfl|rfl<;>decide)
              |(rcases he' with rfl|rfl|rfl|rfl|rfl|rfl|rfl|rfl|rfl|rfl|rfl|rfl|rfl|rfl|rfl|rfl<;>decide)
              |(rcases he' with rfl|rfl|rfl|rfl|rfl|rfl|rfl|rfl|rfl|rfl|rfl|rfl|rfl|rfl|rfl|rfl|rfl<;>decide)
           ·rintro u w' v hu hrow hb
            obtain⟨gq,cq,hv⟩:∃g c,v = .slice (some ⟨g,0,none⟩) (ss.length+1) c:=by
             obtain⟨_,⟨_,q0⟩|⟨g,c',cur,q1,_⟩⟩:=id hrow
             ·omega
             ·exact⟨g,c',by rw[q1];congr 1;omega⟩
            subst hv;have ow:=fW (R:=(jb G.objs ss).take i++mi :: (jb G.objs ss).drop i) rfl (by simp;omega) (eI hrow szb);rename_i J K' HJ HK
            exact HK _ _ (Met.intro (HJ _ _ ⟨u 4,_,_,_,_,_,_,_,_,_,_,_,_,_,_,_,_,_,_,_,_,_,_,_,_,_,_,_,_,_,_,_,_,_,_,_,_,_,_,_,_,_,_,_,_,_,_,_,_,_,_,_,_,_,_,_,_,_,_,_,_,_,_,_,_,_,_,_,_,_,_,_,_,_,_,_,_,_,_,_,_,_,_,_,_,_,_,⟨gq,cq,hu,ow,hb⟩,rfl⟩))
          obtain⟨g6,c6,rfl,HO6,HB6⟩:=hcut;obtain⟨wd,hwd⟩:∃wd,wd=wc:=⟨_,rfl⟩
          subst hwd;have BYd:=HBYb.out.trans (HB6.out.mono HBYb.out.size);have TYd:=aJ HTY.out BYd;have l7:=lt_of_block TYd;have f3:=(ak TYd).2.2.2.1;have szd:w.heap.size≤wd.heap.size:=Nat.le_trans szb HB6.out.size;have hT5:=aa (ib (aj HY5.out) hi) BYd;have hD5:=aa HRb.out HB6.out;have HBXd:Hid (Below X2.heap.size X2 wd):=HBY.out.trans (BYd.mono HBY.out.size);clear f0;go_wp2_with fail;refine yX (s0:=90) (ls:=5) (rs:=10) (P7:=P7) (fd:=3) (kk:=i) (m:=ss.length-i) (x:=mh) (T:=(jH G.objs ss).take i) (D:=(jH G.objs ss).drop i) (lv:=.slice (some ⟨g5,0,none⟩) ss.length c5) (pv:=.slice (some ⟨g5,0,none⟩) i c5) (rv:=.slice (some ⟨gb',0,none⟩) (ss.length-i) cb) (a:=some ⟨g5,0,none⟩) (cap:=c5) (gr:=gb') (cr:=cb) (by simp) ?_ rfl ⟨_,rfl,rfl,rfl,by simp[Region.binds]⟩ ⟨_,rfl,rfl,rfl,by simp[Region.binds]⟩ ⟨_,rfl,rfl,rfl,by simp[Region.binds]⟩ ⟨_,rfl,rfl,rfl,by simp[Region.binds]⟩ ⟨_,rfl,rfl,rfl,by simp[Region.binds]⟩ ⟨_,rfl,rfl,rfl,by simp[Region.binds]⟩ ⟨_,rfl,rfl,rfl,by simp[Region.binds]⟩ ⟨_,rfl,rfl,rfl,by simp[Region.binds]⟩ ⟨_,rfl,rfl,rfl,by simp[Region.binds]⟩ ⟨_,rfl,rfl,rfl,by simp[Region.binds]⟩ ⟨_,rfl,rfl,rfl,by simp[Region.binds]⟩ ⟨_,rfl,rfl,rfl,by simp[Region.binds]⟩ (by decide) (by decide) (by decide) (by decide) (by decide) (by decide) (by simp) rfl rfl rfl rfl (zA (by omega) (by omega) (by omega)) (II P7) l7 f3 rfl hT5 rfl hD5 (by omega) (by omega) ?_
          ·intro k' o' ho' e' he';have hk':k'<12:=(Array.getElem?_eq_some_iff.1 ho').1;rcases (show k'=0∨k'=1∨k'=2∨k'=3∨k'=4∨k'=5∨k'=6∨k'=7∨k'=8∨k'=9∨k'=10∨k'=11 by omega) with rfl|rfl|rfl|rfl|rfl|rfl|rfl|rfl|rfl|rfl|rfl|rfl
           all_goals
            injection ho' with ho'
            subst ho';simp at he';try omega
           all_goals
            first
             |(subst he';decide)
             |(rcases he' with rfl|rfl<;>decide)
             |(rcases he' with rfl|rfl|rfl<;>decide)
             |(rcases he' with rfl|rfl|rfl|rfl<;>decide)
             |(rcases he' with rfl|rfl|rfl|rfl|rfl<;>decide)
             |(rcases he' with rfl|rfl|rfl|rfl|rfl|rfl<;>decide)
             |(rcases he' with rfl|rfl|rfl|rfl|rfl|rfl|rfl<;>decide)
             |(rcases he' with rfl|rfl|rfl|rfl|rfl|rfl|rfl|rfl<;>decide)
             |(rcases he' with rfl|rfl|rfl|rfl|rfl|rfl|rfl|rfl|rfl<;>decide)
             |(rcases he' with rfl|rfl|rfl|rfl|rfl|rfl|rfl|rfl|rfl|rfl<;>decide)
             |(rcases he' with rfl|rfl|rfl|rfl|rfl|rfl|rfl|rfl|rfl|rfl|rfl<;>decide)
             |(rcases he' with rfl|rfl|rfl|rfl|rfl|rfl|rfl|rfl|rfl|rfl|rfl|rfl<;>decide)
             |(rcases he' with rfl|rfl|rfl|rfl|rfl|rfl|rfl|rfl|rfl|rfl|rfl|rfl|rfl<;>decide)
             |(rcases he' with rfl|rfl|rfl|rfl|rfl|rfl|rfl|rfl|rfl|rfl|rfl|rfl|rfl|rfl<;>decide)
             |(rcases he' with rfl|rfl|rfl|rfl|rfl|rfl|rfl|rfl|rfl|rfl|rfl|rfl|rfl|rfl|rfl<;>decide)
             |(rcases he' with rfl|rfl|rfl|rfl|rfl|rfl|rfl|rfl|rfl|rfl|rfl|rfl|rfl|rfl|rfl|rfl<;>decide)
             |(rcases he' with rfl|rfl|rfl|rfl|rfl|rfl|rfl|rfl|rfl|rfl|rfl|rfl|rfl|rfl|rfl|rfl|rfl<;>decide)
          rintro u w' v hu hrow hb
          obtain⟨gq,cq,hv⟩:∃g c,v = .slice (some ⟨g,0,none⟩) (ss.length+1) c:=by
           obtain⟨_,⟨_,q0⟩|⟨g,c',cur,q1,_⟩⟩:=id hrow
           ·omega
           ·exact⟨g,c',by rw[q1];congr 1;omega⟩
          subst hv;have ow:=fW (R:=(jH G.objs ss).take i++mh :: (jH G.objs ss).drop i) rfl (by simp;omega) (eI hrow szd);have HB7:Hid _:=hb;have HO7:Hid _:=ow;clear ow hb hrow;simp[ovr,List.range,List.range.loop,hu]
          have hins:=xI (os:=G.objs) (p:=k) hi (fun j hj=>by
                have:=hall j hj
                rw[HHS.out]
                have e:(jH G.objs ss).getD j 0=(G.objs.getD (ss.getD j 0) obD).hash:=by
                 rw[List.getD_eq_getElem?_getD,List.getElem?_map,List.getElem?_eq_getElem (show j<ss.length by omega),List.getD_eq_getElem?_getD (l:=ss),List.getElem?_eq_getElem (show j<ss.length by omega)];rfl
                rw[←e];exact this) (fun hjl=>by
                rw[HHS.out]
                have e:(jH G.objs ss).getD i 0=(G.objs.getD (ss.getD i 0) obD).hash:=by
                 rw[List.getD_eq_getElem?_getD,List.getElem?_map,List.getElem?_eq_getElem hjl,List.getD_eq_getElem?_getD (l:=ss),List.getElem?_eq_getElem hjl];rfl
                rw[←e];exact (by rw[hhx];exact HNLE.out))
          have HST:Hid (∃(k' g4' c4' g5' c5':Nat),k'≤ms.length∧Value.int .i64 ((k:Int)+1) = .int .i64 k'∧Value.slice (some ⟨g6,0,none⟩) (ss.length+1) c6 = .slice (some ⟨g4',0,none⟩) (sortG G.objs f k').length c4'∧Value.slice (some ⟨gq,0,none⟩) (ss.length+1) cq = .slice (some ⟨g5',0,none⟩) (sortG G.objs f k').length c5'∧rows.Own w' w.heap.size (.slice (some ⟨g4',0,none⟩) (sortG G.objs f k').length c4') (jb G.objs (sortG G.objs f k'))∧rows.Own w' w.heap.size (.slice (some ⟨g5',0,none⟩) (sortG G.objs f k').length c5') (jH G.objs (sortG G.objs f k'))∧Below X2.heap.size X2 w'):=by
           have e1:jb G.objs (sortG G.objs f (k+1))=(jb G.objs ss).take i++mi :: (jb G.objs ss).drop i:=by rw[HX.out,hins,←HID.out];simp[jb]
           have e2:jH G.objs (sortG G.objs f (k+1))=(jH G.objs ss).take i++mh :: (jH G.objs ss).drop i:=by rw[HX.out,hins,←HHS.out];simp[jH]
           have e3:(sortG G.objs f (k+1)).length=ss.length+1:=by rw[HX.out,pE]
           exact⟨k+1,g6,c6,gq,cq,by omega,by simp,by rw[e3],by rw[e3],by rw[e3,e1];exact aB HO6.out HB7.out,by rw[e3,e2];exact HO7.out,HBXd.out.trans (HB7.out.mono HBXd.out.size)⟩
          clear hins;go_wp2;exact⟨HST.out,by simp[intOf];omega⟩
         ·have hdl:decide ((i:Int)<(ss.length:Int))=false:=by rw[decide_eq_false_iff_not];omega
          have hnl:¬(i:Int)<(ss.length:Int):=by omega
          go_wp2_with fail;go_quiet (fail)
          have HP4:Hid (∀n o c,(o=i∧c=c4-i∨i=ss.length∧c4=i∧o=0∧c=0)→au (Y.drewN n) (.slice (some ⟨g4,o,none⟩) (ss.length-i) c) ((jb G.objs ss).drop i)):=by
           intro n o c h;rcases h with ⟨rfl,rfl⟩|⟨h1,h2,rfl,rfl⟩
           ·exact cQ (w:=Y) (b:=g4) (off:=0) (n:=ss.length) (cap:=c4) (aj HY4.out) hi (fun h=>by rw[Nat.zero_add]) (fun h=>by cases h)
           ·have:=cQ (w:=Y) (b:=g4) (off:=0) (n:=ss.length) (cap:=c4) (k:=i) (aj HY4.out) hi (a:=some ⟨g4,0,none⟩) (fun h=>by omega) (fun h=>by cases h)
            rw[show c4-i=0 by omega]at this;exact this
          have HP5:Hid (∀W o c,Below Y.heap.size Y W→(o=i∧c=c5-i∨i=ss.length∧c5=i∧o=0∧c=0)→au W (.slice (some ⟨g5,o,none⟩) (ss.length-i) c) ((jH G.objs ss).drop i)):=by
           intro W o c hW h;refine aa ?_ hW;rcases h with ⟨rfl,rfl⟩|⟨h1,h2,rfl,rfl⟩
           ·exact cQ (w:=Y) (b:=g5) (off:=0) (n:=ss.length) (cap:=c5) (aj HY5.out) hi (fun h=>by rw[Nat.zero_add]) (fun h=>by cases h)
           ·have:=cQ (w:=Y) (b:=g5) (off:=0) (n:=ss.length) (cap:=c5) (k:=i) (aj HY5.out) hi (a:=some ⟨g5,0,none⟩) (fun h=>by omega) (fun h=>by cases h)
            rw[show c5-i=0 by omega]at this;exact this
          have HQ4:Hid (∀n,au (Y.drewN n) (.slice (if c4=i then (some ⟨g4,0,none⟩:Option Addr) else some ⟨g4,i,none⟩) (ss.length-i) (c4-i)) ((jb G.objs ss).drop i)):=fun n=>cQ (w:=Y) (b:=g4) (off:=0) (n:=ss.length) (cap:=c4) (aj HY4.out) hi (fun h=>by rw[if_neg (by omega),Nat.zero_add]) (fun h=>by split at h<;>cases h)
          have HQ5:Hid (∀W,Below Y.heap.size Y W→au W (.slice (if c5=i then (some ⟨g5,0,none⟩:Option Addr) else some ⟨g5,i,none⟩) (ss.length-i) (c5-i)) ((jH G.objs ss).drop i)):=fun W hW=>aa (cQ (w:=Y) (b:=g5) (off:=0) (n:=ss.length) (cap:=c5) (aj HY5.out) hi (fun h=>by rw[if_neg (by omega),Nat.zero_add]) (fun h=>by split at h<;>cases h)) hW
          go_wp2_with (first
           |(refine aL (n:=ss.length-i) (xs:=(jb G.objs ss).drop i) ?_ (by omega) rfl (.tmp 69) (.tmp 72) rfl rfl rfl ?_;(first|exact HQ4.out _|exact HP4.out _ _ _ (Or.inl ⟨rfl,rfl⟩)|exact HP4.out _ _ _ (Or.inr ⟨by omega,by omega,rfl,rfl⟩));intro ga ca wa hga hOa hBa;(try generalize (if c4=i then (some ⟨g4,0,none⟩:Option Addr) else some ⟨g4,i,none⟩)=z4);have BYa:Below Y.heap.size Y wa:=⟨hBa.os,hBa.tape,hBa.output,hBa.size,hBa.block⟩;have HBYa:Hid _:=BYa;have HRa:Hid (au wa (.slice (some ⟨ga,0,none⟩) (ss.length-i) ca) ((jb G.objs ss).drop i)):=aj (gA hOa (by simp));clear hOa hBa hga BYa)
           |(refine aL (n:=ss.length-i) (xs:=(jH G.objs ss).drop i) ?_ (by omega) rfl (.tmp 74) (.tmp 77) rfl rfl rfl ?_;(first|exact HQ5.out _ HBYa.out|exact HP5.out _ _ _ HBYa.out (Or.inl ⟨rfl,rfl⟩)|exact HP5.out _ _ _ HBYa.out (Or.inr ⟨by omega,by omega,rfl,rfl⟩));intro gb' cb wb hgb hOb hBb;(try generalize (if c5=i then (some ⟨g5,0,none⟩:Option Addr) else some ⟨g5,i,none⟩)=z5);have HBYb:Hid (Below Y.heap.size Y wb):=HBYa.out.trans (hBb.mono HBYa.out.size);have HRa2:Hid _:=aa HRa.out hBb;have HRb:Hid (au wb (.slice (some ⟨gb',0,none⟩) (ss.length-i) cb) ((jH G.objs ss).drop i)):=aj (gA hOb (by simp));clear hOb hBb hgb))
          clear HQ4 HQ5 HP4 HP5;have TYb:=aJ HTY.out HBYb.out;have l7:=lt_of_block TYb;have f0:=(ak TYb).1;have szb:w.heap.size≤wb.heap.size:=Nat.le_trans HB2.out.size (Nat.le_trans HBY.out.size HBYb.out.size);have hT4:=aa (ib (aj HY4.out) hi) HBYb.out;go_cut [4] from 15 to 100 (fun v wx=>∃g c:Nat,v = .slice (some ⟨g,0,none⟩) (ss.length+1) c∧Hid (rows.Own wx w.heap.size (.slice (some ⟨g,0,none⟩) (ss.length+1) c) ((jb G.objs ss).take i++mi :: (jb G.objs ss).drop i))∧Hid (Below wb.heap.size wb wx))
          case first=>
           refine yX (s0:=79) (ls:=4) (rs:=9) (P7:=P7) (fd:=0) (kk:=i) (m:=ss.length-i) (x:=mi) (T:=(jb G.objs ss).take i) (D:=(jb G.objs ss).drop i) (lv:=.slice (some ⟨g4,0,none⟩) ss.length c4) (pv:=.slice (some ⟨g4,0,none⟩) i c4) (rv:=.slice (some ⟨ga,0,none⟩) (ss.length-i) ca) (a:=some ⟨g4,0,none⟩) (cap:=c4) (gr:=ga) (cr:=ca) (by simp) ?_ rfl ⟨_,rfl,rfl,rfl,by simp[Region.binds]⟩ ⟨_,rfl,rfl,rfl,by simp[Region.binds]⟩ ⟨_,rfl,rfl,rfl,by simp[Region.binds]⟩ ⟨_,rfl,rfl,rfl,by simp[Region.binds]⟩ ⟨_,rfl,rfl,rfl,by simp[Region.binds]⟩ ⟨_,rfl,rfl,rfl,by simp[Region.binds]⟩ ⟨_,rfl,rfl,rfl,by simp[Region.binds]⟩ ⟨_,rfl,rfl,rfl,by simp[Region.binds]⟩ ⟨_,rfl,rfl,rfl,by simp[Region.binds]⟩ ⟨_,rfl,rfl,rfl,by simp[Region.binds]⟩ ⟨_,rfl,rfl,rfl,by simp[Region.binds]⟩ ⟨_,rfl,rfl,rfl,by simp[Region.binds]⟩ (by decide) (by decide) (by decide) (by decide) (by decide) (by decide) (by simp) rfl rfl rfl rfl (zA (by omega) (by omega) (by omega)) (IG P7) l7 f0 rfl hT4 rfl HRa2.out (by omega) (by omega) ?_
           ·intro k' o' ho' e' he';have hk':k'<12:=(Array.getElem?_eq_some_iff.1 ho').1;rcases (show k'=0∨k'=1∨k'=2∨k'=3∨k'=4∨k'=5∨k'=6∨k'=7∨k'=8∨k'=9∨k'=10∨k'=11 by omega) with rfl|rfl|rfl|rfl|rfl|rfl|rfl|rfl|rfl|rfl|rfl|rfl
            all_goals
             injection ho' with ho'
             subst ho';simp at he';try omega
            all_goals
             first
              |(subst he';decide)
              |(rcases he' with rfl|rfl<;>decide)
              |(rcases he' with rfl|rfl|rfl<;>decide)
              |(rcases he' with rfl|rfl|rfl|rfl<;>decide)
              |(rcases he' with rfl|rfl|rfl|rfl|rfl<;>decide)
              |(rcases he' with rfl|rfl|rfl|rfl|rfl|rfl<;>decide)
              |(rcases he' with rfl|rfl|rfl|rfl|rfl|rfl|rfl<;>decide)
              |(rcases he' with rfl|rfl|rfl|rfl|rfl|rfl|rfl|rfl<;>decide)
              |(rcases he' with rfl|rfl|rfl|rfl|rfl|rfl|rfl|rfl|rfl<;>decide)
              |(rcases he' with rfl|rfl|rfl|rfl|rfl|rfl|rfl|rfl|rfl|rfl<;>decide)
              |(rcases he' with rfl|rfl|rfl|rfl|rfl|rfl|rfl|rfl|rfl|rfl|rfl<;>decide)
              |(rcases he' with rfl|rfl|rfl|rfl|rfl|rfl|rfl|rfl|rfl|rfl|rfl|rfl<;>decide)
              |(rcases he' with rfl|rfl|rfl|rfl|rfl|rfl|rfl|rfl|rfl|rfl|rfl|rfl|rfl<;>decide)
              |(rcases he' with rfl|rfl|rfl|rfl|rfl|rfl|rfl|rfl|rfl|rfl|rfl|rfl|rfl|rfl<;>decide)
              |(rcases he' with rfl|rfl|rfl|rfl|rfl|rfl|rfl|rfl|rfl|rfl|rfl|rfl|rfl|rfl|rfl<;>decide)
              |(rcases he' with rfl|rfl|rfl|rfl|rfl|rfl|rfl|rfl|rfl|rfl|rfl|rfl|rfl|rfl|rfl|rfl<;>decide)
              |(rcases he' with rfl|rfl|rfl|rfl|rfl|rfl|rfl|rfl|rfl|rfl|rfl|rfl|rfl|rfl|rfl|rfl|rfl<;>decide)
           ·rintro u w' v hu hrow hb
            obtain⟨gq,cq,hv⟩:∃g c,v = .slice (some ⟨g,0,none⟩) (ss.length+1) c:=by
             obtain⟨_,⟨_,q0⟩|⟨g,c',cur,q1,_⟩⟩:=id hrow
             ·omega
             ·exact⟨g,c',by rw[q1];congr 1;omega⟩
            subst hv;have ow:=fW (R:=(jb G.objs ss).take i++mi :: (jb G.objs ss).drop i) rfl (by simp;omega) (eI hrow szb);rename_i J K' HJ HK
            exact HK _ _ (Met.intro (HJ _ _ ⟨u 4,_,_,_,_,_,_,_,_,_,_,_,_,_,_,_,_,_,_,_,_,_,_,_,_,_,_,_,_,_,_,_,_,_,_,_,_,_,_,_,_,_,_,_,_,_,_,_,_,_,_,_,_,_,_,_,_,_,_,_,_,_,_,_,_,_,_,_,_,_,_,_,_,_,_,_,_,_,_,_,_,_,_,_,_,_,_,⟨gq,cq,hu,ow,hb⟩,rfl⟩))
          obtain⟨g6,c6,rfl,HO6,HB6⟩:=hcut;obtain⟨wd,hwd⟩:∃wd,wd=wc:=⟨_,rfl⟩
          subst hwd;have BYd:=HBYb.out.trans (HB6.out.mono HBYb.out.size);have TYd:=aJ HTY.out BYd;have l7:=lt_of_block TYd;have f3:=(ak TYd).2.2.2.1;have szd:w.heap.size≤wd.heap.size:=Nat.le_trans szb HB6.out.size;have hT5:=aa (ib (aj HY5.out) hi) BYd;have hD5:=aa HRb.out HB6.out;have HBXd:Hid (Below X2.heap.size X2 wd):=HBY.out.trans (BYd.mono HBY.out.size);clear f0;go_wp2_with fail;refine yX (s0:=90) (ls:=5) (rs:=10) (P7:=P7) (fd:=3) (kk:=i) (m:=ss.length-i) (x:=mh) (T:=(jH G.objs ss).take i) (D:=(jH G.objs ss).drop i) (lv:=.slice (some ⟨g5,0,none⟩) ss.length c5) (pv:=.slice (some ⟨g5,0,none⟩) i c5) (rv:=.slice (some ⟨gb',0,none⟩) (ss.length-i) cb) (a:=some ⟨g5,0,none⟩) (cap:=c5) (gr:=gb') (cr:=cb) (by simp) ?_ rfl ⟨_,rfl,rfl,rfl,by simp[Region.binds]⟩ ⟨_,rfl,rfl,rfl,by simp[Region.binds]⟩ ⟨_,rfl,rfl,rfl,by simp[Region.binds]⟩ ⟨_,rfl,rfl,rfl,by simp[Region.binds]⟩ ⟨_,rfl,rfl,rfl,by simp[Region.binds]⟩ ⟨_,rfl,rfl,rfl,by simp[Region.binds]⟩ ⟨_,rfl,rfl,rfl,by simp[Region.binds]⟩ ⟨_,rfl,rfl,rfl,by simp[Region.binds]⟩ ⟨_,rfl,rfl,rfl,by simp[Region.binds]⟩ ⟨_,rfl,rfl,rfl,by simp[Region.binds]⟩ ⟨_,rfl,rfl,rfl,by simp[Region.binds]⟩ ⟨_,rfl,rfl,rfl,by simp[Region.binds]⟩ (by decide) (by decide) (by decide) (by decide) (by decide) (by decide) (by simp) rfl rfl rfl rfl (zA (by omega) (by omega) (by omega)) (II P7) l7 f3 rfl hT5 rfl hD5 (by omega) (by omega) ?_
          ·intro k' o' ho' e' he';have hk':k'<12:=(Array.getElem?_eq_some_iff.1 ho').1;rcases (show k'=0∨k'=1∨k'=2∨k'=3∨k'=4∨k'=5∨k'=6∨k'=7∨k'=8∨k'=9∨k'=10∨k'=11 by omega) with rfl|rfl|rfl|rfl|rfl|rfl|rfl|rfl|rfl|rfl|rfl|rfl
           all_goals
            injection ho' with ho'
            subst ho';simp at he';try omega
           all_goals
            first
             |(subst he';decide)
             |(rcases he' with rfl|rfl<;>decide)
             |(rcases he' with rfl|rfl|rfl<;>decide)
             |(rcases he' with rfl|rfl|rfl|rfl<;>decide)
             |(rcases he' with rfl|rfl|rfl|rfl|rfl<;>decide)
             |(rcases he' with rfl|rfl|rfl|rfl|rfl|rfl<;>decide)
             |(rcases he' with rfl|rfl|rfl|rfl|rfl|rfl|rfl<;>decide)
             |(rcases he' with rfl|rfl|rfl|rfl|rfl|rfl|rfl|rfl<;>decide)
             |(rcases he' with rfl|rfl|rfl|rfl|rfl|rfl|rfl|rfl|rfl<;>decide)
             |(rcases he' with rfl|rfl|rfl|rfl|rfl|rfl|rfl|rfl|rfl|rfl<;>decide)
             |(rcases he' with rfl|rfl|rfl|rfl|rfl|rfl|rfl|rfl|rfl|rfl|rfl<;>decide)
             |(rcases he' with rfl|rfl|rfl|rfl|rfl|rfl|rfl|rfl|rfl|rfl|rfl|rfl<;>decide)
             |(rcases he' with rfl|rfl|rfl|rfl|rfl|rfl|rfl|rfl|rfl|rfl|rfl|rfl|rfl<;>decide)
             |(rcases he' with rfl|rfl|rfl|rfl|rfl|rfl|rfl|rfl|rfl|rfl|rfl|rfl|rfl|rfl<;>decide)
             |(rcases he' with rfl|rfl|rfl|rfl|rfl|rfl|rfl|rfl|rfl|rfl|rfl|rfl|rfl|rfl|rfl<;>decide)
             |(rcases he' with rfl|rfl|rfl|rfl|rfl|rfl|rfl|rfl|rfl|rfl|rfl|rfl|rfl|rfl|rfl|rfl<;>decide)
             |(rcases he' with rfl|rfl|rfl|rfl|rfl|rfl|rfl|rfl|rfl|rfl|rfl|rfl|rfl|rfl|rfl|rfl|rfl<;>decide)
          rintro u w' v hu hrow hb
          obtain⟨gq,cq,hv⟩:∃g c,v = .slice (some ⟨g,0,none⟩) (ss.length+1) c:=by
           obtain⟨_,⟨_,q0⟩|⟨g,c',cur,q1,_⟩⟩:=id hrow
           ·omega
           ·exact⟨g,c',by rw[q1];congr 1;omega⟩
          subst hv;have ow:=fW (R:=(jH G.objs ss).take i++mh :: (jH G.objs ss).drop i) rfl (by simp;omega) (eI hrow szd);have HB7:Hid _:=hb;have HO7:Hid _:=ow;clear ow hb hrow;simp[ovr,List.range,List.range.loop,hu]
          have hins:=xI (os:=G.objs) (p:=k) hi (fun j hj=>by
                have:=hall j hj
                rw[HHS.out]
                have e:(jH G.objs ss).getD j 0=(G.objs.getD (ss.getD j 0) obD).hash:=by
                 rw[List.getD_eq_getElem?_getD,List.getElem?_map,List.getElem?_eq_getElem (show j<ss.length by omega),List.getD_eq_getElem?_getD (l:=ss),List.getElem?_eq_getElem (show j<ss.length by omega)];rfl
                rw[←e];exact this) (fun h=>absurd h (by omega))
          have HST:Hid (∃(k' g4' c4' g5' c5':Nat),k'≤ms.length∧Value.int .i64 ((k:Int)+1) = .int .i64 k'∧Value.slice (some ⟨g6,0,none⟩) (ss.length+1) c6 = .slice (some ⟨g4',0,none⟩) (sortG G.objs f k').length c4'∧Value.slice (some ⟨gq,0,none⟩) (ss.length+1) cq = .slice (some ⟨g5',0,none⟩) (sortG G.objs f k').length c5'∧rows.Own w' w.heap.size (.slice (some ⟨g4',0,none⟩) (sortG G.objs f k').length c4') (jb G.objs (sortG G.objs f k'))∧rows.Own w' w.heap.size (.slice (some ⟨g5',0,none⟩) (sortG G.objs f k').length c5') (jH G.objs (sortG G.objs f k'))∧Below X2.heap.size X2 w'):=by
           have e1:jb G.objs (sortG G.objs f (k+1))=(jb G.objs ss).take i++mi :: (jb G.objs ss).drop i:=by rw[HX.out,hins,←HID.out];simp[jb]
           have e2:jH G.objs (sortG G.objs f (k+1))=(jH G.objs ss).take i++mh :: (jH G.objs ss).drop i:=by rw[HX.out,hins,←HHS.out];simp[jH]
           have e3:(sortG G.objs f (k+1)).length=ss.length+1:=by rw[HX.out,pE]
           exact⟨k+1,g6,c6,gq,cq,by omega,by simp,by rw[e3],by rw[e3],by rw[e3,e1];exact aB HO6.out HB7.out,by rw[e3,e2];exact HO7.out,HBXd.out.trans (HB7.out.mono HBXd.out.size)⟩
          clear hins;go_wp2;exact⟨HST.out,by simp[intOf];omega⟩
     ·have hk2':(k0 != 2)=true:=by simpa using hk2
      have hfk:f k=false:=by
       cases e:f k
       ·rfl
       ·obtain⟨_,_,q',h1,h2⟩:=HFK.out.1 e;rw[HKN.out hk2]at h1;cases h1
      have HX:Hid _:=HSKIP.out hfk;clear HSKIP HNO HYES HKX HKN HIN hfk he0 hk2;go_wp2_with (go_at_call 61;refine HS1.mono ?_;clear HS1;rintro e w4 ⟨rfl,hw4⟩;rw[hw4];clear hw4);exact⟨HX.out,by simp[intOf];omega⟩
    ·have HS1:=fC HRY.out (by omega) mi;rw[decide_eq_false hi1]at HS1
     have hfk:f k=false:=by
      cases e:f k
      ·rfl
      ·exact absurd (HIN.out.2 (HFK.out.1 e).1) hi1
     have HX:Hid _:=HSKIP.out hfk;clear HSKIP HNO HYES HKX HKN HIN hfk;go_wp2_with (go_at_call 61;refine HS1.mono ?_;clear HS1;rintro e w4 ⟨rfl,hw4⟩;rw[hw4];clear hw4);exact⟨HX.out,by simp[intOf];omega⟩
   ·have hf2':(mf != 2)=true:=by simpa using hf2
    have hfk:f k=false:=by
     cases e:f k
     ·rfl
     ·have:=(HFK.out.1 e).2.1
      rw[HFM.out]at this;exact absurd this hf2
    have HX:Hid _:=HSKIP.out hfk;clear HSKIP HNO HYES HKX HKN HIN hfk hf2;go_wp2;exact⟨HX.out,by simp[intOf];omega⟩
  ·have e:k=ms.length:=by omega
   subst e
   have hfin:rows.Own wr w.heap.size (.slice (some ⟨g4,0,none⟩) (sortG G.objs f ms.length).length c4) (jb G.objs ps):=by
    have:=HO4.out
    rw[HPS.out,←HLEN.out];exact this
   have HFO:Hid _:=hfin;have HFB:Hid (Below w.heap.size w wr):=HB2.out.trans (hB.mono HB2.out.size);clear hO4 hO5 hB hfin;generalize (sortG G.objs f ms.length).length=nn at *;go_wp2;go_ret;exact⟨_,rfl,HFO.out,HFB.out⟩
end Go.Proofs.YtocidankimefpaaGreatDoor.gr
