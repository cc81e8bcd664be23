/-
  A number into a list that rises, by the specification (for seats without graphs).
  Made from the template HeapP.
-/
import Derived.Test.YtkiognecebgaiaaGreatDoorM8
import Derived.Test.YtkiognecebgaiaaGreatDoorM1
import Derived.Maps.AppendAt
namespace Go.Proofs.YtkiognecebgaiaaGreatDoor.hp
open Go.RowKit rows heads
set_option maxRecDepth 100000
set_option linter.unusedVariables false
theorem row_below {w w':World} {base size n:Nat} {t:TypeId} {v:Value} {xs:List Value} (h:w.ownsRow base t size v n xs) (hb:Below w.heap.size w w'):w'.ownsRow base t size v n xs:=row_ch (S:=[]) h (ch_below hb) (by simp)
abbrev Rising (xs:List Int):Prop:=xs.Pairwise (· < ·)
def putI (n:Int):List Int→List Int
 | []=>[n]
 |x :: xs=>if x<n then x :: putI n xs else if x=n then x :: xs else n :: x :: xs
theorem putI_at {n:Int}:∀ {xs:List Int} {k:Nat},k≤xs.length→(∀i,i<k→xs.getD i 0<n)→(k<xs.length→¬xs.getD k 0<n)→putI n xs=if k<xs.length∧xs.getD k 0=n then xs else xs.take k++n :: xs.drop k
 | [],k,hk,_,_=>by
   have e:k=0:=by simpa using hk
   subst e
   simp[putI]
 |x :: xs,0,hk,h1,h2=>by
  have h3:=h2 (by simp)
  simp only[List.getD_cons_zero]at h3
  unfold putI
  rw[if_neg h3]
  by_cases e:x=n
  ·rw[if_pos e,if_pos ⟨by simp,e⟩]
  ·rw[if_neg e,if_neg (fun h=>e h.2)]
   rfl
 |x :: xs,k+1,hk,h1,h2=>by
  have h3:x<n:=h1 0 (by omega)
  have ih:= @putI_at n xs k (by simpa using hk) (fun i hi=>h1 (i+1) (by omega)) (fun hi=>h2 (by simpa using hi))
  unfold putI
  rw[if_pos h3,ih]
  simp only[List.length_cons,List.getD_cons_succ,Nat.add_lt_add_iff_right,List.take_succ_cons,List.drop_succ_cons]
  split
  ·rfl
  ·rfl
theorem ints_take {w:World} {a:Option Addr} {n cap k:Nat} {xs:List Int} (h:IntsAt w (.slice a n cap) xs) (hk:k≤n):IntsAt w (.slice a k cap) (xs.take k):=by
 obtain⟨a0,cap0,e,h1,h2,h3,h4⟩:=h
 injection e with e1 e2 e3
 subst e1 e2 e3
 refine⟨a,cap,by rw[List.length_take,Nat.min_eq_left hk],?_,h2,h3,fun hp => ?_⟩
 ·rw[List.length_take];omega
 ·rw[List.length_take]at hp
  obtain⟨b,off,e,hb,hc⟩:=h4 (by omega)
  refine⟨b,off,e,hb,fun i hi => ?_⟩
  rw[List.length_take]at hi
  rw[hc i (by omega),List.getD_eq_getElem?_getD,List.getD_eq_getElem?_getD,List.getElem?_take_of_lt (by omega)]
theorem ints_drop {w:World} {b off n cap k:Nat} {xs:List Int} (h:IntsAt w (.slice (some ⟨b,off,none⟩) n cap) xs) (hk:k≤n) {a:Option Addr} (ha:k<n→a=some ⟨b,off+k,none⟩) (hz:a=none→cap-k=0):IntsAt w (.slice a (n-k) (cap-k)) (xs.drop k):=by
 obtain⟨a0,cap0,e,h1,h2,h3,h4⟩:=h
 injection e with e1 e2 e3
 subst e1 e2 e3
 refine⟨a,cap-k,by rw[List.length_drop],?_,Nat.le_trans (Nat.sub_le _ _) h2,hz,fun hp => ?_⟩
 ·rw[List.length_drop];omega
 ·rw[List.length_drop]at hp
  obtain⟨b',off',e,hb,hc⟩:=h4 (by omega)
  injection e with e
  injection e with e1 e2
  subst e1 e2
  refine⟨b,off+k,ha (by omega),hb,fun i hi => ?_⟩
  rw[List.length_drop]at hi
  rw[Nat.add_assoc,hc (k+i) (by omega),List.getD_eq_getElem?_getD,List.getD_eq_getElem?_getD,List.getElem?_drop]
theorem wpList_copiedN {w:World} {ops:Array Oper} {rest:List Oper} {o:Oper} {act:Act} {Q:Exit→Act→World→Prop} {a:Option Addr} {n cap:Nat} {xs:List Int}
    (h:IntsAt w (.slice a n cap) xs) (hl:n≤1048576) (hgd:o.guard=none) (s x:Operand) (ho:o.op = .call { callee:=.builtin .append,args:=#[s,x],argTypes:=#[48,48] })
    (hs:act.eval s = .slice (some ⟨w.heap.size,0,none⟩) 0 0) (hx:act.eval x = .slice a n cap)
    (hK:∀g cap' w1,w.heap.size≤g→w1.ownsRow w.heap.size 2 1 (.slice (some ⟨g,0,none⟩) n cap') n (cellsOf xs)→Below w.heap.size w w1→wpList Tryz.prog ops Q rest (act.put o.dst (.slice (some ⟨g,0,none⟩) n cap')) w1) :
    wpList Tryz.prog ops Q (o :: rest) act (w.alloc (.cells #[] 2)):=by
 have e:xs.length=n:=by
  obtain⟨a',c',e,_⟩:=h
  injection e with _ e _
  exact e.symm
 subst e
 exact wpList_copied h hl hgd s x ho hs hx hK
theorem own_put {w:World} {base m:Nat} {v:Value} {T D R:List Int} {n:Int} (e:R=T++n :: D) (hm:(T++n :: D).length=m) (h:w.ownsRow base 2 1 v m ((cellsOf T++[.int .i64 n])++cellsOf D)):rows.Own w base v R:=by
 subst e hm
 unfold rows.Own
 have e:cellsOf (T++n :: D)=(cellsOf T++[.int .i64 n])++cellsOf D:=by simp[cellsOf]
 rw[e]
 exact h
theorem row_base {w:World} {base base' n:Nat} {t:TypeId} {v:Value} {cs:List Value} (h:w.ownsRow base t 1 v n cs) (hb:base'≤base):w.ownsRow base' t 1 v n cs:=by
 obtain⟨h0,⟨h1,h2⟩|⟨g,cap,cur,h1,hg,hh⟩⟩:=h
 ·exact⟨h0,.inl ⟨h1,h2⟩⟩
 ·exact⟨h0,.inr ⟨g,cap,cur,h1,Nat.le_trans hb hg,hh⟩⟩
theorem row_slice {w:World} {base n:Nat} {t:TypeId} {v:Value} {xs:List Value} (h:w.ownsRow base t 1 v n xs):∃a c,v = .slice a n c:=by
 obtain⟨h0,⟨h1,h2⟩|⟨g,cap,cur,h1,_⟩⟩:=h
 ·exact⟨none,0,by rw[h1,h2]⟩
 ·exact⟨_,_,h1⟩
theorem num_new (W:World) (t:TypeId) (x:Int):∀j u,[Value.int .i64 x][j]? = some u→(W.alloc (.cells #[.int .i64 x] t)).cell? ((⟨W.heap.size,0,none⟩:Addr).add j)=some u:=by
 intro j u h
 match j with
 |0=>
  simp at h
  subst h
  simp[Addr.add]
 |j+1=>simp at h
theorem below_app {B:Nat} {w W w':World} {v:Value} {n:Nat} {t:TypeId} {cs:List Value} (h:Below B w W) (hr:W.ownsRow B t 1 v n cs) (hB:B≤W.heap.size) (hg:W.grownBy w' v.ownBlock):Below B w w':=
 h.trans (below_ch (ch_grown hg) hB (fun k hk=>(blk_lt hr k hk).1))
set_option maxHeartbeats 8000000 in
theorem l1Put_any {w:World} {base:Nat} {v:Value} {xs:List Int} (h:rows.Own w base v xs) (hb:base≤w.heap.size) (hl:xs.length≤1000000) (n:Int) :
    Calls Tryz.prog 129 #[v,.int .i64 n] w fun e w'=>∃v',e = .returned v'∧rows.Own w' base v' (putI n xs)∧Below w.heap.size w w':=by
 have hI:=own_ints h
 have HO:Hid _:=h
 have HI:Hid _:=hI
 obtain⟨a,cap,rfl,hlc,hcm,hnil,hc⟩:=hI
 have HC:Hid _:=hc
 have hcb:cap≤9223372036854775807:=hcm
 obtain⟨i0,hi0,hz0,hz1,hz2⟩:=info_parts info
 have HI0:Hid _:=hi0
 have HZ0:Hid _:=hz0
 have HZ1:Hid _:=hz1
 have HZ2:Hid _:=hz2
 obtain⟨RX,hRX⟩:∃RX,putI n xs=RX:=⟨_,rfl⟩
 rw[hRX]
 have HRX:Hid _:=hRX
 clear hc h hi0 hz0 hz1 hz2 hRX
 go_enter Tryz.func129,Tryz.ntmps129
 go_wp2_with fail
 go_loopw [5] (fun p wr=>∃k:Nat,k≤xs.length∧p = .int .i64 k∧(∀j,j<k→xs.getD j 0<n)∧wr=w) (fun p _=>xs.length-(intOf p).toNat)
 case atStart=>exact⟨0,Nat.zero_le _,rfl,fun j hj=>by omega,rfl⟩
 case round=>
  obtain⟨k,hk,rfl,hall,hw⟩:=hrel
  subst hw
  by_cases hgo:k<xs.length∧xs.getD k 0<n
  ·obtain⟨hlt,hy⟩:=hgo
   obtain⟨b,off,rfl,_,hcc⟩:=HC.out (by omega)
   have c0:=hcc k hlt
   have HV:Hid (∀j,j<k+1→xs.getD j 0<n):=fun j hj=>by
    by_cases e:j=k
    ·rw[e];exact hy
    ·exact hall j (by omega)
   clear hcc HC hall
   generalize xs.getD k 0=y at *
   go_wp2
   exact⟨⟨k+1,by omega,by go_num,HV,by trivial⟩,by simp[intOf];omega⟩
  ·have hput:=putI_at hk hall (fun h1 h2=>hgo ⟨h1,h2⟩)
   by_cases heq:k<xs.length∧xs.getD k 0=n
   ·obtain⟨hlt,hy⟩:=heq
    obtain⟨b,off,rfl,_,hcc⟩:=HC.out (by omega)
    have c0:=hcc k hlt
    rw[hy]at c0
    rw[if_pos ⟨hlt,hy⟩]at hput
    have HF:Hid (RX=xs):=HRX.out.symm.trans hput
    have hnn:(n==n)=true:=by simp
    have hn2:¬n<n:=by omega
    clear hcc HC hall hput hgo hy
    go_wp2
    go_ret
    exact⟨_,rfl,by rw[HF.out];exact HO.out,Below.refl _ _⟩
   ·rw[if_neg heq]at hput
    have HF:Hid _:=HRX.out.symm.trans hput
    have hmin:min k xs.length=k:=by omega
    by_cases hlt:k<xs.length
    ·obtain⟨b,off,rfl,_,hcc⟩:=HC.out (by omega)
     have c0:=hcc k hlt
     have hy1:¬xs.getD k 0<n:=fun e=>hgo ⟨hlt,e⟩
     have hy2:(xs.getD k 0==n)=false:=by
      have:¬xs.getD k 0=n:=fun e=>heq ⟨hlt,e⟩
      simpa using this
     have hck:¬cap=k:=by omega
     have HP1:Hid (IntsAt wr (.slice (some ⟨b,off+k,none⟩) (xs.length-k) (cap-k)) (xs.drop k)):=ints_drop HI.out hk (fun _=>rfl) (fun e=>by cases e)
     have HP2:Hid (IntsAt wr (.slice (some ⟨b,off,none⟩) k cap) (xs.take k)):=ints_take HI.out hk
     clear hcc HC hall hput hgo heq
     generalize xs.getD k 0=y at *
     go_wp2_with (first
      |(refine wpList_copiedN (a:=(some ⟨b,off+k,none⟩)) (n:=(xs.length-k)) (cap:=(cap-k)) (xs:=(xs.drop k)) HP1.out (by omega) rfl (.tmp 34) (.tmp 37) rfl rfl rfl ?_;intro g1 cap1 w1 hg1 hO1 hB1;have HR1:Hid (IntsAt w1 (.slice (some ⟨g1,0,none⟩) (xs.length-k) cap1) (xs.drop k)):=own_ints (own_row hO1 (by simp));have HP3:Hid (IntsAt w1 (.slice (some ⟨b,off,none⟩) k cap) (xs.take k)):=intsAt_below HP2.out hB1;have HB1:Hid _:=hB1;have sz1:=hB1.size;clear hO1 hB1 hg1)
      |(refine wpList_copiedN (a:=(some ⟨b,off,none⟩)) (n:=k) (cap:=cap) (xs:=(xs.take k)) HP3.out (by omega) rfl (.tmp 39) (.tmp 42) rfl rfl rfl ?_;intro g2 cap2 w2 hg2 hO2 hB2;have HO2:Hid ((w2.alloc (.cells #[.int .i64 n] 2)).ownsRow w1.heap.size 2 1 (.slice (some ⟨g2,0,none⟩) k cap2) k (cellsOf (xs.take k))):=row_below hO2 ((Below.refl _ _).alloc (Nat.le_refl _) (.cells #[.int .i64 n] 2));have HB2:Hid (Below w1.heap.size w1 (w2.alloc (.cells #[.int .i64 n] 2))):=hB2.alloc hB2.size _;have sz2:=hB2.size;have sz2':w1.heap.size≤(w2.alloc (.cells #[.int .i64 n] 2)).heap.size:=HB2.out.size;have HNW:Hid _:=num_new w2 2 n;clear hO2 hB2 hg2)
      |(refine wpList_append_own_at _ rfl (.tmp 43) (.tmp 45) 48 rfl w1.heap.size 2 i0 (.int .i64 0) 1 8 Tryz.underlying48 HI0.out HZ0.out HZ1.out HZ2.out rfl (by decide) (.slice (some ⟨g2,0,none⟩) k cap2) k (cellsOf (xs.take k)) rfl HO2.out ⟨w2.heap.size,0,none⟩ 1 1 [.int .i64 n] rfl rfl HNW.out (by simp[Value.oneCell']) (by unfold maxLen;omega) (by omega) sz2' ?_;intro v3 w3 hO3 hg3 _ hat3;obtain⟨a3,c3,rfl⟩:=row_slice hO3;have B3:=below_app HB2.out HO2.out sz2' hg3;have HO3:Hid (w3.ownsRow w1.heap.size 2 1 (.slice a3 (k+1) c3) (k+1) (cellsOf (xs.take k)++[.int .i64 n])):=hO3;have HB3:Hid _:=B3;have sz3:=B3.size;have IR3:=intsAt_below HR1.out B3;have HNW3:Hid _:=ints_news IR3;clear hO3 hg3 hat3 B3 IR3)
      |(refine wpList_append_own_at _ rfl (.tmp 46) (.tmp 47) 48 rfl w1.heap.size 2 i0 (.int .i64 0) 1 8 Tryz.underlying48 HI0.out HZ0.out HZ1.out HZ2.out rfl (by decide) (.slice a3 (k+1) c3) (k+1) (cellsOf (xs.take k)++[.int .i64 n]) rfl HO3.out ⟨g1,0,none⟩ ((xs.length-k)) cap1 (cellsOf (xs.drop k)) rfl (by simp) HNW3.out (ints_oneCell _ _) (by unfold maxLen;omega) (by omega) sz3 ?_;intro v4 w4 hO4 hg4 _ hat4;obtain⟨a4,c4,rfl⟩:=row_slice hO4;have B4:=below_app HB3.out HO3.out sz3 hg4;have HFB:Hid (Below wr.heap.size wr w4):=HB1.out.trans (B4.mono sz1);have HFO:Hid (rows.Own w4 base (.slice a4 (k+1+((xs.length-k))) c4) RX):=own_put HF.out (by simp<;>omega) (row_base hO4 (Nat.le_trans hb sz1));clear hO4 hg4 hat4 B4))
     go_ret
     exact⟨_,rfl,HFO.out,HFB.out⟩
    ·have ek:k=xs.length:=by omega
     have hd:xs.drop k=[]:=List.drop_eq_nil_of_le (by omega)
     have ht:xs.take k=xs:=List.take_of_length_le (by omega)
     have HFN:Hid (RX=xs++n :: []):=by
      have:=HF.out
      rw[hd,ht]at this
      exact this
     clear HF
     have HF:Hid (RX=xs++n :: []):=HFN.out
     clear HFN
     have HQ1:Hid (IntsAt wr (.slice none 0 0) []):=⟨none,0,rfl,Nat.le_refl _,by decide,fun _=>rfl,fun h=>absurd h (by simp)⟩
     cases a with
     |none=>
      have hc0:=hnil rfl
      have hx0:xs=[]:=List.eq_nil_of_length_eq_zero (by omega)
      subst hc0 hx0
      obtain rfl:k=0:=by simpa using ek
      have HP1:Hid (IntsAt wr (.slice none 0 0) []):=HQ1.out
      have HP2:Hid (IntsAt wr (.slice none 0 0) []):=HQ1.out
      clear HC hall hput hgo heq hmin hd ht ek HQ1
      go_wp2_with (first
       |(refine wpList_copiedN (a:=none) (n:=0) (cap:=0) (xs:=([]:List Int)) HP1.out (by omega) rfl (.tmp 34) (.tmp 37) rfl rfl rfl ?_;intro g1 cap1 w1 hg1 hO1 hB1;have HR1:Hid (IntsAt w1 (.slice (some ⟨g1,0,none⟩) 0 cap1) ([]:List Int)):=own_ints (own_row hO1 (by simp));have HP3:Hid (IntsAt w1 (.slice none 0 0) ([]:List Int)):=intsAt_below HP2.out hB1;have HB1:Hid _:=hB1;have sz1:=hB1.size;clear hO1 hB1 hg1)
       |(refine wpList_copiedN (a:=none) (n:=0) (cap:=0) (xs:=([]:List Int)) HP3.out (by omega) rfl (.tmp 39) (.tmp 42) rfl rfl rfl ?_;intro g2 cap2 w2 hg2 hO2 hB2;have HO2:Hid ((w2.alloc (.cells #[.int .i64 n] 2)).ownsRow w1.heap.size 2 1 (.slice (some ⟨g2,0,none⟩) 0 cap2) 0 (cellsOf ([]:List Int))):=row_below hO2 ((Below.refl _ _).alloc (Nat.le_refl _) (.cells #[.int .i64 n] 2));have HB2:Hid (Below w1.heap.size w1 (w2.alloc (.cells #[.int .i64 n] 2))):=hB2.alloc hB2.size _;have sz2:=hB2.size;have sz2':w1.heap.size≤(w2.alloc (.cells #[.int .i64 n] 2)).heap.size:=HB2.out.size;have HNW:Hid _:=num_new w2 2 n;clear hO2 hB2 hg2)
       |(refine wpList_append_own_at _ rfl (.tmp 43) (.tmp 45) 48 rfl w1.heap.size 2 i0 (.int .i64 0) 1 8 Tryz.underlying48 HI0.out HZ0.out HZ1.out HZ2.out rfl (by decide) (.slice (some ⟨g2,0,none⟩) 0 cap2) 0 (cellsOf ([]:List Int)) rfl HO2.out ⟨w2.heap.size,0,none⟩ 1 1 [.int .i64 n] rfl rfl HNW.out (by simp[Value.oneCell']) (by unfold maxLen;omega) (by omega) sz2' ?_;intro v3 w3 hO3 hg3 _ hat3;obtain⟨a3,c3,rfl⟩:=row_slice hO3;have B3:=below_app HB2.out HO2.out sz2' hg3;have HO3:Hid (w3.ownsRow w1.heap.size 2 1 (.slice a3 (0+1) c3) (0+1) (cellsOf ([]:List Int)++[.int .i64 n])):=hO3;have HB3:Hid _:=B3;have sz3:=B3.size;have IR3:=intsAt_below HR1.out B3;have HNW3:Hid _:=ints_news IR3;clear hO3 hg3 hat3 B3 IR3)
       |(refine wpList_append_own_at _ rfl (.tmp 46) (.tmp 47) 48 rfl w1.heap.size 2 i0 (.int .i64 0) 1 8 Tryz.underlying48 HI0.out HZ0.out HZ1.out HZ2.out rfl (by decide) (.slice a3 (0+1) c3) (0+1) (cellsOf ([]:List Int)++[.int .i64 n]) rfl HO3.out ⟨g1,0,none⟩ (0) cap1 (cellsOf ([]:List Int)) rfl (by simp) HNW3.out (ints_oneCell _ _) (by unfold maxLen;omega) (by omega) sz3 ?_;intro v4 w4 hO4 hg4 _ hat4;obtain⟨a4,c4,rfl⟩:=row_slice hO4;have B4:=below_app HB3.out HO3.out sz3 hg4;have HFB:Hid (Below wr.heap.size wr w4):=HB1.out.trans (B4.mono sz1);have HFO:Hid (rows.Own w4 base (.slice a4 (0+1+(0)) c4) RX):=own_put HF.out (by simp<;>omega) (row_base hO4 (Nat.le_trans hb sz1));clear hO4 hg4 hat4 B4))
      go_ret
      exact⟨_,rfl,HFO.out,HFB.out⟩
     |some ad=>
      obtain⟨g0,hg0⟩:∃g0,ad=⟨g0,0,none⟩:=by
       obtain⟨_,⟨h1,_⟩|⟨g,c',cur,h1,_⟩⟩:=HO.out
       ·cases h1
       ·injection h1 with h1
        injection h1 with h1
        exact⟨g,h1⟩
      subst hg0 ek
      have HP2:Hid (IntsAt wr (.slice (some ⟨g0,0,none⟩) xs.length cap) xs):=HI.out
      by_cases hck:cap=xs.length
      ·subst hck
       have HP1:Hid (IntsAt wr (.slice (some ⟨g0,0,none⟩) 0 0) []):=⟨_,0,rfl,Nat.le_refl _,by decide,fun e=>(by cases e),fun h=>absurd h (by simp)⟩
       clear HC hall hput hgo heq hmin hd ht HQ1
       go_wp2_with (first
        |(refine wpList_copiedN (a:=(some ⟨g0,0,none⟩)) (n:=0) (cap:=0) (xs:=([]:List Int)) HP1.out (by omega) rfl (.tmp 34) (.tmp 37) rfl rfl rfl ?_;intro g1 cap1 w1 hg1 hO1 hB1;have HR1:Hid (IntsAt w1 (.slice (some ⟨g1,0,none⟩) 0 cap1) ([]:List Int)):=own_ints (own_row hO1 (by simp));have HP3:Hid (IntsAt w1 (.slice (some ⟨g0,0,none⟩) xs.length xs.length) xs):=intsAt_below HP2.out hB1;have HB1:Hid _:=hB1;have sz1:=hB1.size;clear hO1 hB1 hg1)
        |(refine wpList_copiedN (a:=(some ⟨g0,0,none⟩)) (n:=xs.length) (cap:=xs.length) (xs:=xs) HP3.out (by omega) rfl (.tmp 39) (.tmp 42) rfl rfl rfl ?_;intro g2 cap2 w2 hg2 hO2 hB2;have HO2:Hid ((w2.alloc (.cells #[.int .i64 n] 2)).ownsRow w1.heap.size 2 1 (.slice (some ⟨g2,0,none⟩) xs.length cap2) xs.length (cellsOf xs)):=row_below hO2 ((Below.refl _ _).alloc (Nat.le_refl _) (.cells #[.int .i64 n] 2));have HB2:Hid (Below w1.heap.size w1 (w2.alloc (.cells #[.int .i64 n] 2))):=hB2.alloc hB2.size _;have sz2:=hB2.size;have sz2':w1.heap.size≤(w2.alloc (.cells #[.int .i64 n] 2)).heap.size:=HB2.out.size;have HNW:Hid _:=num_new w2 2 n;clear hO2 hB2 hg2)
        |(refine wpList_append_own_at _ rfl (.tmp 43) (.tmp 45) 48 rfl w1.heap.size 2 i0 (.int .i64 0) 1 8 Tryz.underlying48 HI0.out HZ0.out HZ1.out HZ2.out rfl (by decide) (.slice (some ⟨g2,0,none⟩) xs.length cap2) xs.length (cellsOf xs) rfl HO2.out ⟨w2.heap.size,0,none⟩ 1 1 [.int .i64 n] rfl rfl HNW.out (by simp[Value.oneCell']) (by unfold maxLen;omega) (by omega) sz2' ?_;intro v3 w3 hO3 hg3 _ hat3;obtain⟨a3,c3,rfl⟩:=row_slice hO3;have B3:=below_app HB2.out HO2.out sz2' hg3;have HO3:Hid (w3.ownsRow w1.heap.size 2 1 (.slice a3 (xs.length+1) c3) (xs.length+1) (cellsOf xs++[.int .i64 n])):=hO3;have HB3:Hid _:=B3;have sz3:=B3.size;have IR3:=intsAt_below HR1.out B3;have HNW3:Hid _:=ints_news IR3;clear hO3 hg3 hat3 B3 IR3)
        |(refine wpList_append_own_at _ rfl (.tmp 46) (.tmp 47) 48 rfl w1.heap.size 2 i0 (.int .i64 0) 1 8 Tryz.underlying48 HI0.out HZ0.out HZ1.out HZ2.out rfl (by decide) (.slice a3 (xs.length+1) c3) (xs.length+1) (cellsOf xs++[.int .i64 n]) rfl HO3.out ⟨g1,0,none⟩ (0) cap1 (cellsOf ([]:List Int)) rfl (by simp) HNW3.out (ints_oneCell _ _) (by unfold maxLen;omega) (by omega) sz3 ?_;intro v4 w4 hO4 hg4 _ hat4;obtain⟨a4,c4,rfl⟩:=row_slice hO4;have B4:=below_app HB3.out HO3.out sz3 hg4;have HFB:Hid (Below wr.heap.size wr w4):=HB1.out.trans (B4.mono sz1);have HFO:Hid (rows.Own w4 base (.slice a4 (xs.length+1+(0)) c4) RX):=own_put HF.out (by simp<;>omega) (row_base hO4 (Nat.le_trans hb sz1));clear hO4 hg4 hat4 B4))
       go_ret
       exact⟨_,rfl,HFO.out,HFB.out⟩
      ·have HP1:Hid (IntsAt wr (.slice (some ⟨g0,xs.length,none⟩) 0 (cap-xs.length)) []):=⟨_,_,rfl,Nat.zero_le _,Nat.le_trans (Nat.sub_le _ _) hcm,fun e=>(by cases e),fun h=>absurd h (by simp)⟩
       clear HC hall hput hgo heq hmin hd ht HQ1
       go_wp2_with (first
        |(refine wpList_copiedN (a:=(some ⟨g0,xs.length,none⟩)) (n:=0) (cap:=(cap-xs.length)) (xs:=([]:List Int)) HP1.out (by omega) rfl (.tmp 34) (.tmp 37) rfl rfl rfl ?_;intro g1 cap1 w1 hg1 hO1 hB1;have HR1:Hid (IntsAt w1 (.slice (some ⟨g1,0,none⟩) 0 cap1) ([]:List Int)):=own_ints (own_row hO1 (by simp));have HP3:Hid (IntsAt w1 (.slice (some ⟨g0,0,none⟩) xs.length cap) xs):=intsAt_below HP2.out hB1;have HB1:Hid _:=hB1;have sz1:=hB1.size;clear hO1 hB1 hg1)
        |(refine wpList_copiedN (a:=(some ⟨g0,0,none⟩)) (n:=xs.length) (cap:=cap) (xs:=xs) HP3.out (by omega) rfl (.tmp 39) (.tmp 42) rfl rfl rfl ?_;intro g2 cap2 w2 hg2 hO2 hB2;have HO2:Hid ((w2.alloc (.cells #[.int .i64 n] 2)).ownsRow w1.heap.size 2 1 (.slice (some ⟨g2,0,none⟩) xs.length cap2) xs.length (cellsOf xs)):=row_below hO2 ((Below.refl _ _).alloc (Nat.le_refl _) (.cells #[.int .i64 n] 2));have HB2:Hid (Below w1.heap.size w1 (w2.alloc (.cells #[.int .i64 n] 2))):=hB2.alloc hB2.size _;have sz2:=hB2.size;have sz2':w1.heap.size≤(w2.alloc (.cells #[.int .i64 n] 2)).heap.size:=HB2.out.size;have HNW:Hid _:=num_new w2 2 n;clear hO2 hB2 hg2)
        |(refine wpList_append_own_at _ rfl (.tmp 43) (.tmp 45) 48 rfl w1.heap.size 2 i0 (.int .i64 0) 1 8 Tryz.underlying48 HI0.out HZ0.out HZ1.out HZ2.out rfl (by decide) (.slice (some ⟨g2,0,none⟩) xs.length cap2) xs.length (cellsOf xs) rfl HO2.out ⟨w2.heap.size,0,none⟩ 1 1 [.int .i64 n] rfl rfl HNW.out (by simp[Value.oneCell']) (by unfold maxLen;omega) (by omega) sz2' ?_;intro v3 w3 hO3 hg3 _ hat3;obtain⟨a3,c3,rfl⟩:=row_slice hO3;have B3:=below_app HB2.out HO2.out sz2' hg3;have HO3:Hid (w3.ownsRow w1.heap.size 2 1 (.slice a3 (xs.length+1) c3) (xs.length+1) (cellsOf xs++[.int .i64 n])):=hO3;have HB3:Hid _:=B3;have sz3:=B3.size;have IR3:=intsAt_below HR1.out B3;have HNW3:Hid _:=ints_news IR3;clear hO3 hg3 hat3 B3 IR3)
        |(refine wpList_append_own_at _ rfl (.tmp 46) (.tmp 47) 48 rfl w1.heap.size 2 i0 (.int .i64 0) 1 8 Tryz.underlying48 HI0.out HZ0.out HZ1.out HZ2.out rfl (by decide) (.slice a3 (xs.length+1) c3) (xs.length+1) (cellsOf xs++[.int .i64 n]) rfl HO3.out ⟨g1,0,none⟩ (0) cap1 (cellsOf ([]:List Int)) rfl (by simp) HNW3.out (ints_oneCell _ _) (by unfold maxLen;omega) (by omega) sz3 ?_;intro v4 w4 hO4 hg4 _ hat4;obtain⟨a4,c4,rfl⟩:=row_slice hO4;have B4:=below_app HB3.out HO3.out sz3 hg4;have HFB:Hid (Below wr.heap.size wr w4):=HB1.out.trans (B4.mono sz1);have HFO:Hid (rows.Own w4 base (.slice a4 (xs.length+1+(0)) c4) RX):=own_put HF.out (by simp<;>omega) (row_base hO4 (Nat.le_trans hb sz1));clear hO4 hg4 hat4 B4))
       go_ret
       exact⟨_,rfl,HFO.out,HFB.out⟩
end Go.Proofs.YtkiognecebgaiaaGreatDoor.hp
