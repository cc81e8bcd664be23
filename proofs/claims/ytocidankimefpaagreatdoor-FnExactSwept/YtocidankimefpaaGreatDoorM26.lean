/-
  Chapter 12 as the program has it: a set kept rising. Chapter 13 as the program has it: the memory while it is marked. Chapter 15 as the program has it: does a word lead to a note? Does one of a list? Chapter 10 as the program has it: a list followed, and what is seen told anew.
-/
import Derived.Test.YtocidankimefpaaGreatDoorM14
import Derived.Test.YtocidankimefpaaGreatDoorM20
import Derived.Test.YtocidankimefpaaGreatDoorM21
import Derived.Test.YtocidankimefpaaGreatDoorM23
import Derived.Test.YtocidankimefpaaGreatDoorM18
import Derived.Test.YtocidankimefpaaGreatDoorM19
import Derived.Test.YtocidankimefpaaGreatDoorM25
import Derived.Test.YtocidankimefpaaGreatDoorM1
namespace Go.Proofs.YtocidankimefpaaGreatDoor.hp
open Go.RowKit rows heads words walks
set_option maxRecDepth 100000
set_option linter.unusedVariables false
set_option linter.unusedSimpArgs false
theorem cmpIsNaN_any (x:Int) (w:World):Calls Tryz.prog 148 #[.int .i64 x] w fun e w'=>e = .returned (.bool false)∧w'=w:=by
 go_enter Tryz.func148,Tryz.ntmps148
 go_wp2
 go_ret
 exact⟨by simp,rfl⟩
theorem slIsNaN_any (x:Int) (w:World):Calls Tryz.prog 123 #[.int .i64 x] w fun e w'=>e = .returned (.bool false)∧w'=w:=by
 go_enter Tryz.func123,Tryz.ntmps123
 go_wp2
 go_ret
 exact⟨by simp,rfl⟩
set_option maxHeartbeats 1000000 in
theorem less_any (x y:Int) (w:World):Calls Tryz.prog 122 #[.int .i64 x,.int .i64 y] w fun e w'=>e = .returned (.bool (decide (x<y)))∧w'=w:=by
 have N1:=cmpIsNaN_any x w
 go_enter Tryz.func122,Tryz.ntmps122
 go_wp2_with (go_at_call 148;refine N1.mono ?_;clear N1;rintro e w3 ⟨rfl,hw3⟩;rw[hw3];clear hw3 w3)
 go_ret
 exact⟨rfl,rfl⟩
def EndsI (xs:List Int) (x:Int) (i:Nat):Prop:=i≤xs.length∧(∀t,t<i→xs.getD t 0<x)∧∀t,i≤t→t<xs.length→x≤xs.getD t 0
theorem rising_at {xs:List Int} (h:Rising xs) {i j:Nat} (hij:i<j) (hj:j<xs.length):xs.getD i 0<xs.getD j 0:=by
 have hP:=List.pairwise_iff_getElem.1 h
 have:=hP i j (by omega) hj hij
 rw[List.getD_eq_getElem?_getD,List.getElem?_eq_getElem (by omega),List.getD_eq_getElem?_getD,List.getElem?_eq_getElem hj]
 exact this
set_option maxHeartbeats 4000000 in
theorem binSearchI_any {w:World} {v:Value} {xs:List Int} (h:IntsAt w v xs) (hr:Rising xs) (hl:xs.length≤1048576) (x:Int) :
    Calls Tryz.prog 76 #[v,.int .i64 x] w fun e w'=>∃i:Nat,EndsI xs x i∧e = .returned (.tuple #[.int .i64 i,.bool (decide (i<xs.length)&&decide (xs.getD i 0=x))])∧w'=w:=by
 obtain⟨a,cap,rfl,hlc,hcm,_,hc⟩:=h
 have HC:Hid _:=hc
 have HR:Hid (∀i j,i<j→j<xs.length→xs.getD i 0<xs.getD j 0):=fun i j h1 h2=>rising_at hr h1 h2
 clear hc hr
 go_enter Tryz.func76,Tryz.ntmps76
 go_wp2_with fail
 go_loopw [7,8] (fun p q wr=>∃lo hi:Nat,p = .int .i64 lo∧q = .int .i64 hi∧lo≤hi∧hi≤xs.length∧(∀t,t<lo→xs.getD t 0<x)∧(∀t,hi≤t→t<xs.length→x≤xs.getD t 0)∧wr=w) (fun p q _=>(intOf q).toNat-(intOf p).toNat)
 case atStart=>exact⟨0,xs.length,rfl,rfl,Nat.zero_le _,Nat.le_refl _,fun t ht=>by omega,fun t h1 h2=>by omega,rfl⟩
 case round=>
  obtain⟨lo,hi,rfl,rfl,hlh,hhn,hlo,hhi,hB⟩:=hrel
  subst hB
  have HLO:Hid _:=hlo
  have HHI:Hid _:=hhi
  clear hlo hhi
  by_cases hlt:lo<hi
  ·have hm1:lo≤(lo+hi) / 2∧(lo+hi) / 2<hi:=by omega
   have ediv:((lo:Int)+(hi:Int)).fdiv (2 ^ min (Int.toNat 1) IntKind.u64.bits)=((lo:Int)+(hi:Int)) / 2:=by
    rw[show (2:Int) ^ min (Int.toNat 1) IntKind.u64.bits=2 by decide,Int.fdiv_eq_ediv_of_nonneg _ (by decide)]
   obtain⟨b,off,rfl,hb,hcc⟩:=HC.out (by omega)
   have c0:=hcc ((lo+hi) / 2) (by omega)
   have HUP:Hid (xs.getD ((lo+hi) / 2) 0<x→∀t,t<((lo+hi) / 2)+1→xs.getD t 0<x):=fun e t ht=>by
    by_cases e':t=((lo+hi) / 2)
    ·rw[e'];exact e
    ·have:=HR.out t ((lo+hi) / 2) (by omega) (by omega)
     omega
   have HDN:Hid (¬xs.getD ((lo+hi) / 2) 0<x→∀t,((lo+hi) / 2)≤t→t<xs.length→x≤xs.getD t 0):=fun e t h1 h2=>by
    by_cases e':t=((lo+hi) / 2)
    ·rw[e'];omega
    ·have:=HR.out ((lo+hi) / 2) t (by omega) h2
     omega
   clear hcc HC HR
   generalize xs.getD ((lo+hi) / 2) 0=y at *
   have A:=less_any y x wr
   by_cases hx:y<x
   ·have HUP2:Hid _:=HUP.out hx
    rw[decide_eq_true hx]at A
    clear HUP HDN HLO hx
    go_wp2_with (go_at_call 122;refine A.mono ?_;clear A;rintro e w3 ⟨rfl,hw3⟩;rw[hw3];clear hw3 w3)
    exact⟨⟨((lo+hi) / 2)+1,hi,by go_num,rfl,by omega,hhn,HUP2,HHI,trivial⟩,by simp[intOf];omega⟩
   ·have HDN2:Hid _:=HDN.out hx
    rw[decide_eq_false hx]at A
    clear HUP HDN HHI hx
    go_wp2_with (go_at_call 122;refine A.mono ?_;clear A;rintro e w3 ⟨rfl,hw3⟩;rw[hw3];clear hw3 w3)
    exact⟨⟨lo,((lo+hi) / 2),rfl,by go_num,by omega,by omega,HLO,HDN2,trivial⟩,by simp[intOf];omega⟩
  ·have e:hi=lo:=by omega
   subst e
   have HE:Hid (EndsI xs x hi):=⟨hhn,HLO.out,HHI.out⟩
   clear HLO HHI HR
   by_cases hn:hi<xs.length
   ·obtain⟨b,off,rfl,hb,hcc⟩:=HC.out (by omega)
    have c0:=hcc hi (by omega)
    have N1:=slIsNaN_any (xs.getD hi 0) wr
    have hn':(hi:Int)<(xs.length:Int):=by omega
    clear hcc HC
    obtain⟨y,hy⟩:∃y,xs.getD hi 0=y:=⟨_,rfl⟩
    rw[hy]at c0 N1
    have HY:Hid _:=hy
    clear hy
    by_cases hyx:y=x
    ·subst hyx
     go_wp2_with (go_at_call 123;refine N1.mono ?_;clear N1;rintro e w3 ⟨rfl,hw3⟩;rw[hw3];clear hw3 w3)
     go_ret2
     exact⟨hi,HE.out,by rw[HY.out];simp[hn],rfl⟩
    ·have hyx':(y==x)=false:=by simp[hyx]
     go_wp2_with (go_at_call 123;refine N1.mono ?_;clear N1;rintro e w3 ⟨rfl,hw3⟩;rw[hw3];clear hw3 w3)
     go_ret2
     exact⟨hi,HE.out,by rw[HY.out];simp[hyx],rfl⟩
   ·have hn':¬(hi:Int)<(xs.length:Int):=by omega
    clear HC
    go_wp2_with fail
    go_ret2
    exact⟨hi,HE.out,by simp[hn],rfl⟩
abbrev stb (v:Value):Obj:=.cells #[v] 71
theorem stb_cells {W:World} {b:Nat} {v:Value} (h:W.heap[b]? = some (stb v)):W.cell? ⟨b,0,none⟩=some v∧W.frozen? ⟨b,0,none⟩=false:=by
 constructor<;>simp[World.cell?, World.frozen?, h]
theorem stb_set {W:World} {b:Nat} {v:Value} (h:W.heap[b]? = some (stb v)) (u:Value):(W.setCell ⟨b,0,none⟩ u).heap[b]? = some (stb u):=
 (cells_setCell h 0 u).trans (by simp)
theorem ends_not {xs:List Int} {x:Int} {i:Nat} (hr:Rising xs) (h:EndsI xs x i) (hn:(decide (i<xs.length)&&decide (xs.getD i 0=x))=false):x ∉ xs:=by
 intro hx
 obtain⟨m,hm,e⟩:=List.getElem_of_mem hx
 have e':xs.getD m 0=x:=by rw[List.getD_eq_getElem?_getD,List.getElem?_eq_getElem hm];exact e
 rcases Nat.lt_trichotomy m i with h1|h1|h1
 ·have:=h.2.1 m h1;omega
 ·subst h1;rw[decide_eq_true hm,decide_eq_true e']at hn;cases hn
 ·have h2:=h.2.2 i (Nat.le_refl _) (by omega)
  have h3:=rising_at hr h1 hm
  omega
theorem put_there {x:Int}:∀ {xs:List Int},Rising xs→x ∈ xs→putI x xs=xs
 | [],_,h=>by simp at h
 |y :: xs,hr,h=>by
  have hr':=List.pairwise_cons.1 hr
  unfold putI
  rcases List.mem_cons.1 h with rfl|h
  ·rw[if_neg (by omega),if_pos rfl]
  ·have:=hr'.1 x h
   rw[if_pos this,put_there hr'.2 h]
theorem put_at {x:Int}:∀ {xs:List Int} {i:Nat},i≤xs.length→(∀t,t<i→xs.getD t 0<x)→(∀t,i≤t→t<xs.length→x<xs.getD t 0)→putI x xs=xs.take i++[x]++xs.drop i
 | [],i,h,_,_=>by simp[putI]
 |y :: xs,0,h,_,h2=>by
  have:=h2 0 (Nat.le_refl _) (by simp)
  simp at this
  unfold putI
  rw[if_neg (by omega),if_neg (by omega)]
  simp
 |y :: xs,i+1,h,h1,h2=>by
  have:=h1 0 (by omega)
  simp at this
  unfold putI
  rw[if_pos this,put_at (i:=i) (by simpa using h) (fun t ht=>by simpa using h1 (t+1) (by omega)) (fun t ht hl=>by simpa using h2 (t+1) (by omega) (by simpa using hl))]
  simp
end Go.Proofs.YtocidankimefpaaGreatDoor.hp
namespace Go.Proofs.YtocidankimefpaaGreatDoor.hp
open Go.RowKit rows heads words walks Go.Maps
set_option maxRecDepth 100000
set_option linter.unusedVariables false
set_option linter.unusedSimpArgs false
abbrev mkb (up:Int) (v vm:Value) (mb:Nat):Obj:=.cells #[.int .i64 up,v,vm,.map (some mb)] 110
theorem mkb_cells {W:World} {b:Nat} {up:Int} {v vm:Value} {mb:Nat} (h:W.heap[b]? = some (mkb up v vm mb)):(W.cell? ⟨b,0,none⟩=some (.int .i64 up)∧W.cell? ⟨b,1,none⟩=some v∧W.cell? ⟨b,2,none⟩=some vm∧W.cell? ⟨b,3,none⟩=some (.map (some mb)))∧∀k,W.frozen? ⟨b,k,none⟩=false:=by
 refine⟨⟨?_,?_,?_,?_⟩,fun k => ?_⟩<;>simp[World.cell?, World.frozen?, h]
theorem mkb_set {W:World} {b:Nat} {up:Int} {v vm:Value} {mb:Nat} (h:W.heap[b]? = some (mkb up v vm mb)) (u:Value):(W.setCell ⟨b,2,none⟩ u).heap[b]? = some (mkb up v u mb):=(cells_setCell h 2 u).trans (by simp)
theorem ends_in {xs:List Int} {x:Int} {i:Nat} (h:(decide (i<xs.length)&&decide (xs.getD i 0=x))=true):x ∈ xs:=by
 rw[Bool.and_eq_true,decide_eq_true_eq,decide_eq_true_eq]at h
 rw[←h.2,List.getD_eq_getElem?_getD,List.getElem?_eq_getElem h.1]
 exact List.getElem_mem h.1
set_option maxHeartbeats 4000000 in
theorem hasM_any {w:World} {C o:Nat} {v:Value} {xs:List Int} (hc:w.cell? ⟨C,o,none⟩=some v) (h:IntsAt w v xs) (hr:Rising xs) (hl:xs.length≤1048576) (x:Int) :
    Calls Tryz.prog 35 #[.pointer (some ⟨C,o,none⟩),.int .i64 x] w fun e w'=>e = .returned (.bool (decide (x ∈ xs)))∧w'=w:=by
 have BS:=binSearchI_any h hr hl x
 obtain⟨a,n,c,rfl⟩:=ints_slice h
 have HR:Hid _:=hr
 clear h hr
 go_enter Tryz.func35,Tryz.ntmps35
 go_wp2_with fail
 refine BS.mono ?_
 clear BS
 rintro e w3 ⟨i,hE,rfl,hw3⟩
 rw[hw3]
 clear hw3 w3
 obtain⟨bb,hbb⟩:∃bb,(decide (i<xs.length)&&decide (xs.getD i 0=x))=bb:=⟨_,rfl⟩
 rw[hbb]
 have HB:Hid (decide (x ∈ xs)=bb):=by
  show _=_
  cases bb
  ·exact decide_eq_false (ends_not HR.out hE hbb)
  ·exact decide_eq_true (ends_in hbb)
 clear hbb hE
 go_wp2_with fail
 go_ret
 exact⟨by rw[HB.out];rfl,rfl⟩
set_option maxHeartbeats 4000000 in
theorem addM_any {w:World} {base C:Nat} {up:Int} {v vm:Value} {mb:Nat} {xs:List Int} (hbs:base≤w.heap.size) (hP:w.heap[C]? = some (mkb up v vm mb)) (O:rows.Own w base vm xs) (hC:C ∉ blk vm) (hr:Rising xs) (hl:xs.length≤1000) (x:Int) :
    Calls Tryz.prog 157 #[.pointer (some ⟨C,2,none⟩),.int .i64 x] w fun e w'=>e = .returned (.tuple #[])∧∃v',w'.heap[C]? = some (mkb up v v' mb)∧rows.Own w' base v' (putI x xs)∧Ch (C :: blk vm) w w'∧∀k ∈ blk v',k ∈ blk vm∨w.heap.size≤k:=by
 have BS:=binSearchI_any (own_ints O) hr (by omega) x
 obtain⟨⟨_,_,z0,_⟩,_⟩:=mkb_cells hP
 obtain⟨a,c,hvm⟩:∃a c,vm = .slice a xs.length c:=by
  obtain⟨a,c,e,_⟩:=own_ints O
  exact⟨a,c,e⟩
 subst hvm
 have HP:Hid _:=hP
 have HO:Hid _:=O
 have HR:Hid _:=hr
 have HC:Hid _:=hC
 clear hP O hr hC
 go_enter Tryz.func157,Tryz.ntmps157
 go_wp2_with fail
 refine BS.mono ?_
 clear BS
 rintro e w3 ⟨i,hE,rfl,hw3⟩
 rw[hw3]
 clear hw3 w3
 obtain⟨bb,hbb⟩:∃bb,(decide (i<xs.length)&&decide (xs.getD i 0=x))=bb:=⟨_,rfl⟩
 rw[hbb]
 cases bb
 ·have hnx:=ends_not HR.out hE hbb
  have hne:∀t,t<xs.length→xs.getD t 0≠x:=fun t ht e=>hnx (by rw[←e,List.getD_eq_getElem?_getD,List.getElem?_eq_getElem ht];exact List.getElem_mem ht)
  have HN:Hid (putI x xs=xs.take i++[x]++xs.drop i):=put_at hE.1 hE.2.1 (fun t h1 h2=>by have:=hE.2.2 t h1 h2;have:=hne t h2;omega)
  have hi:=hE.1
  have B1:Below w.heap.size w (w.alloc (.cells #[.int .i64 x] 2)):=(Below.refl _ _).alloc (Nat.le_refl _) _
  have HW:(w.alloc (.cells #[.int .i64 x] 2)).heap[w.heap.size]? = some (.cells #[.int .i64 x] 2 (0,0)):=heap_alloc_new w _
  have hvb:w.heap.size ∉ blk (Value.slice a xs.length c):=fun hk=>Nat.lt_irrefl _ (blk_lt HO.out _ hk).2
  have DE:=insertG_any (base:=base) (Nat.le_trans hbs B1.size) (own_below HO.out B1) HW hvb hi hl
  have hp1:=mkb_cells ((B1.block C (lt_of_block HP.out)).trans HP.out)
  have z1:=hp1.1.2.2.1
  have HB1:Hid _:=B1
  have hi':(i:Int)≤(xs.length:Int):=by omega
  clear hbb hE hne hnx HW B1 hp1 hvb
  go_wp2_with fail
  generalize w.alloc (.cells #[.int .i64 x] 2)=X at *
  refine DE.mono ?_
  clear DE
  rintro e w4 ⟨v4,rfl,O4,C4,K4⟩
  obtain⟨va,vn,vc,rfl⟩:=ints_slice (own_ints O4)
  have q4:=(C4.block C (Nat.lt_of_lt_of_le (lt_of_block HP.out) HB1.out.size) HC.out).trans ((HB1.out.block C (lt_of_block HP.out)).trans HP.out)
  obtain⟨⟨_,_,y0,_⟩,f0⟩:=mkb_cells q4
  have f2:=f0 2
  have HQ4:Hid _:=q4
  have HO4:Hid _:=O4
  have HC4:Hid _:=C4
  have HK4:Hid _:=K4
  clear q4 O4 C4 K4 z1 f0
  have nP:C ∉ blk (Value.slice va vn vc):=fun hk=>by
   rcases HK4.out C hk with e|e
   ·exact HC.out e
   ·have:=lt_of_block HP.out
    have:=HB1.out.size
    omega
  go_wp2_with fail
  refine bodyPost_end (results_none rfl _ _ _) rfl ⟨rfl,_,mkb_set HQ4.out _,?_,?_,fun k hk => ?_⟩
  ·rw[HN.out]
   exact row_ch (S:=[C]) HO4.out (one_ch _ _ _ _) (fun k hk=>by simp;rintro rfl;exact nP hk)
  ·exact ((ch_below HB1.out).trans (HC4.out.mono (fun k hk=>List.mem_cons_of_mem _ hk))).trans ((one_ch _ _ _ _).mono (fun k hk=>by simp at hk;simp[hk]))
  ·exact (HK4.out k hk).imp id (fun e=>Nat.le_trans HB1.out.size e)
 ·have HN:Hid (putI x xs=xs):=put_there HR.out (ends_in hbb)
  clear hbb hE
  go_wp2_with fail
  exact bodyPost_end (results_none rfl _ _ _) rfl ⟨rfl,_,HP.out,by rw[HN.out];exact HO.out,Ch.refl _ _,fun k hk => .inl hk⟩
theorem map_same {w w':World} {k:TypeId} {R:Value→Option (DataW Value×List MemPlace)} {b n:Nat} {D:DataW Value} (h:w.ownsMap Tryz.prog k R b n D) (hb:w'.heap[b]? = w.heap[b]?):w'.ownsMap Tryz.prog k R b n D:=by
 obtain⟨es,clock,h1,h2⟩:=h
 exact⟨es,clock,hb.trans h1,h2⟩
abbrev nilV:Value:=.slice none 0 0
def heldV (v:Value):Option (DataW Value×List MemPlace):=some (.held v,[])
structure Mm where
 vm:Value
 n:Nat
 D:DataW Value
 f:Int→Value
 M:List Int
 Wt:Int→List Int
def Mm.fs (m:Mm) (C mb:Nat) (j:Nat):Prop:=j=C∨j=mb∨j ∈ blk m.vm∨∃k,k ∉ m.M∧j ∈ blk (m.f k)
structure MS (W0:World) (C mb base:Nat) (up:Int) (v:Value) (ok:Int→Prop) (m:Mm) (s:Nat) (W:World):Prop where
 low:Below W0.heap.size W0 W
 c0:W0.heap.size≤C
 c1:C<base
 m0:W0.heap.size≤mb
 m1:mb<base
 cm:C≠mb
 bz:base≤W.heap.size
 blk':W.heap[C]? = some (mkb up v m.vm mb)
 map:W.ownsMap Tryz.prog 2 heldV mb m.n m.D
 tidy:Tidy m.D
 look:∀a,m.D.atKey (kI a) (.held nilV) = .held (m.f a)
 mown:rows.Own W base m.vm m.M
 wown:∀a,rows.Own W base (m.f a) (m.Wt a)
 ap:∀a b,a≠b→∀k ∈ blk (m.f a),k ∉ blk (m.f b)
 am:∀a,∀k ∈ blk (m.f a),k ∉ blk m.vm
 wok:∀a,∀x ∈ m.Wt a,ok x
 nl:m.n+s≤m.M.length
 wl:∀a,(m.Wt a).length+20*s≤20*m.M.length
 ml:m.M.length≤500
theorem MS.less {W0:World} {C mb base:Nat} {up:Int} {v:Value} {ok:Int→Prop} {m:Mm} {s t:Nat} {W:World} (h:MS W0 C mb base up v ok m s W) (ht:t≤s):MS W0 C mb base up v ok m t W:=
 { h with nl:=by have:=h.nl;omega,wl:=fun a=>by have:=h.wl a;omega }
theorem MS.fsLow {W0:World} {C mb base:Nat} {up:Int} {v:Value} {ok:Int→Prop} {m:Mm} {s:Nat} {W:World} (h:MS W0 C mb base up v ok m s W) {j:Nat} (hj:m.fs C mb j):W0.heap.size≤j∧j<W.heap.size:=by
 have:=h.c0;have:=h.c1;have:=h.m0;have:=h.m1;have:=h.bz
 rcases hj with rfl|rfl|hj|⟨k,_,hj⟩
 ·omega
 ·omega
 ·have:=blk_lt h.mown j hj;omega
 ·have:=blk_lt (h.wown k) j hj;omega
theorem MS.below {W0:World} {C mb base:Nat} {up:Int} {v:Value} {ok:Int→Prop} {m:Mm} {s:Nat} {W W':World} (h:MS W0 C mb base up v ok m s W) (hb:Below W.heap.size W W'):MS W0 C mb base up v ok m s W':=
 { h with low:=h.low.trans (hb.mono h.low.size),bz:=Nat.le_trans h.bz hb.size,blk':=(hb.block _ (lt_of_block h.blk')).trans h.blk',map:=map_same h.map (hb.block _ h.map.lt),mown:=own_below h.mown hb,wown:=fun a=>own_below (h.wown a) hb }
structure MR (W0:World) (C mb base:Nat) (up:Int) (v:Value) (ok:Int→Prop) (s:Nat) (m:Mm) (W:World) (m':Mm) (W':World):Prop where
 ms:MS W0 C mb base up v ok m' s W'
 ch:ChP (m.fs C mb) W W'
 sub:∀j,m'.fs C mb j→m.fs C mb j∨W.heap.size≤j
 le:∀a ∈ m.M,a ∈ m'.M
 ln:m.M.length≤m'.M.length
theorem MR.refl {W0:World} {C mb base:Nat} {up:Int} {v:Value} {ok:Int→Prop} {m:Mm} {s:Nat} {W:World} (h:MS W0 C mb base up v ok m s W):MR W0 C mb base up v ok s m W m W:=⟨h,ChP.refl _ _,fun j hj => .inl hj,fun a ha=>ha,Nat.le_refl _⟩
theorem MR.trans {W0:World} {C mb base:Nat} {up:Int} {v:Value} {ok:Int→Prop} {m m1 m2:Mm} {s t:Nat} {W W1 W2:World} (h:MR W0 C mb base up v ok s m W m1 W1) (k:MR W0 C mb base up v ok t m1 W1 m2 W2):MR W0 C mb base up v ok t m W m2 W2:=
 ⟨k.ms,h.ch.trans k.ch h.sub,fun j hj=>(k.sub j hj).elim (h.sub j) (fun e => .inr (Nat.le_trans h.ch.size e)),fun a ha=>k.le a (h.le a ha),Nat.le_trans h.ln k.ln⟩
theorem MR.below {W0:World} {C mb base:Nat} {up:Int} {v:Value} {ok:Int→Prop} {m m1:Mm} {s:Nat} {W W1 W2:World} (h:MR W0 C mb base up v ok s m W m1 W1) (hb:Below W1.heap.size W1 W2):MR W0 C mb base up v ok s m W m1 W2:=
 ⟨h.ms.below hb,h.ch.trans (chP_below (S:=fun _=>False) hb) (fun j hj=>hj.elim),h.sub,h.le,h.ln⟩
theorem MR.ahead {W0:World} {C mb base:Nat} {up:Int} {v:Value} {ok:Int→Prop} {m m1:Mm} {s:Nat} {W W1 W2:World} (hb:Below W.heap.size W W1) (h:MR W0 C mb base up v ok s m W1 m1 W2):MR W0 C mb base up v ok s m W m1 W2:=
 ⟨h.ms,(chP_below hb).trans h.ch (fun j hj => .inl hj),fun j hj=>(h.sub j hj).imp id (fun e=>Nat.le_trans hb.size e),h.le,h.ln⟩
theorem MR.less {W0:World} {C mb base:Nat} {up:Int} {v:Value} {ok:Int→Prop} {m m1:Mm} {s t:Nat} {W W1:World} (h:MR W0 C mb base up v ok s m W m1 W1) (ht:t≤s):MR W0 C mb base up v ok t m W m1 W1:=⟨h.ms.less ht,h.ch,h.sub,h.le,h.ln⟩
theorem len_put_new {a:Int} {M:List Int} (hr:Rising M) (hn:a ∉ M):(putI a M).length=M.length+1:=by
 obtain⟨h1,h2,h3⟩:=len_putI (n:=a) (xs:=M)
 have:(putI a M).length≠M.length:=fun e=>hn (by have:=h3 e;rw[←this];exact mem_putI.2 (.inl rfl))
 omega
theorem MS.come {W0:World} {C mb base:Nat} {up:Int} {v:Value} {ok:Int→Prop} {m:Mm} {s:Nat} {W W':World} (h:MS W0 C mb base up v ok m s W) (hr:Rising m.M) {a:Int} (hn:a ∉ m.M) {v':Value} (hl:(putI a m.M).length≤500)
    (h1:W'.heap[C]? = some (mkb up v v' mb)) (h2:rows.Own W' base v' (putI a m.M)) (h3:Ch (C :: blk m.vm) W W') (h4:∀k ∈ blk v',k ∈ blk m.vm∨W.heap.size≤k) :
    MR W0 C mb base up v ok (s+1) m W { m with vm:=v',M:=putI a m.M } W':=by
 have hne:∀k,k ∈ C :: blk m.vm→W0.heap.size≤k:=fun k hk=>by
  rcases List.mem_cons.1 hk with rfl|hk
  ·exact h.c0
  ·have:=blk_lt h.mown k hk;have:=h.c0;have:=h.c1;omega
 have hw:∀a,∀k ∈ blk (m.f a),k ∉ C :: blk m.vm:=fun a k hk hc=>by
  rcases List.mem_cons.1 hc with rfl|hc
  ·have:=blk_lt (h.wown a) k hk;have:=h.c1;omega
  ·exact h.am a k hk hc
 have hmb:mb ∉ C :: blk m.vm:=fun hc=>by
  rcases List.mem_cons.1 hc with e|hc
  ·exact h.cm e.symm
  ·have:=blk_lt h.mown mb hc;have:=h.m1;omega
 have hlen:=len_put_new hr hn
 refine⟨?_,chP_ch h3 (fun k hk => ?_),fun j hj => ?_,fun b hb=>mem_putI.2 (.inr hb),by show _≤(putI a m.M).length;omega⟩
 ·exact { low:=h.low.trans (below_ch h3 h.low.size hne),c0:=h.c0,c1:=h.c1,m0:=h.m0,m1:=h.m1,cm:=h.cm,bz:=Nat.le_trans h.bz h3.size,blk':=h1,map:=map_same h.map (h3.block mb h.map.lt hmb),tidy:=h.tidy,look:=h.look,mown:=h2,wown:=fun b=>row_ch (h.wown b) h3 (hw b),ap:=h.ap,wok:=h.wok,ml:=hl,
          am:=fun b k hk hc=>by
           rcases h4 k hc with e|e
           ·exact h.am b k hk e
           ·have:=blk_lt (h.wown b) k hk;omega
          nl:=by show _≤(putI a m.M).length;have:=h.nl;show m.n+(s+1)≤_;omega
          wl:=fun b=>by show (m.Wt b).length+20*(s+1)≤20*(putI a m.M).length;have:=h.wl b;omega }
 ·rcases List.mem_cons.1 hk with rfl|hk
  ·exact .inl rfl
  ·exact .inr (.inr (.inl hk))
 ·rcases hj with e|e|e|⟨k,hk,e⟩
  ·exact .inl (.inl e)
  ·exact .inl (.inr (.inl e))
  ·exact (h4 j e).imp (fun e => .inr (.inr (.inl e))) id
  ·exact .inl (.inr (.inr (.inr ⟨k,fun hc=>hk (mem_putI.2 (.inr hc)),e⟩)))
theorem MS.lookup {W0:World} {C mb base:Nat} {up:Int} {v:Value} {ok:Int→Prop} {m:Mm} {s:Nat} {W:World} (h:MS W0 C mb base up v ok m s W) {a:Int} (ha:I64 a):(Instr.lookup 108 (.map (some mb)) (.int .i64 a) false).run Tryz.prog W = .ok (m.f a) W:=by
 have HKY:keyOf Tryz.prog 2 (.int .i64 a)=some (kI a):=keyOf_int_mk Tryz.underlying2 (WalkArith.wf_i64 ha)
 obtain⟨u,ps,hrun,hv⟩:=h.map.lookup (t:=108) (e:=22) lawK Tryz.underlying108 (z:=nilV) (by kernel_rfl) (zd:=.held nilV) (zp:=[]) rfl HKY
 rw[h.look a]at hv
 unfold heldV at hv
 injection hv with hv
 injection hv with hv _
 injection hv with hv
 rw[hrun,hv]
theorem MS.wait {W0:World} {C mb base:Nat} {up:Int} {v:Value} {ok:Int→Prop} {m:Mm} {s:Nat} {W W1:World} (h:MS W0 C mb base up v ok m (s+1) W) {a:Int} (ha:I64 a) (hn:a ∉ m.M) {v':Value} {L:List Int} (hL:L.length≤20) (hok:∀x ∈ L,ok x)
    (h2:rows.Own W1 base v' (m.Wt a++L)) (h3:Ch (blk (m.f a)) W W1) (h4:∀k ∈ blk v',k ∈ blk (m.f a)∨W.heap.size≤k) :
    ∃W2 D',(Instr.mapUpdate 108 (.map (some mb)) (.int .i64 a) v').run Tryz.prog W1 = .ok () W2 ∧
     MR W0 C mb base up v ok s m W { m with n:=m.n+1,D:=D',f:=fun q=>if q=a then v' else m.f q,Wt:=fun q=>if q=a then m.Wt a++L else m.Wt q } W2:=by
 have HKY:keyOf Tryz.prog 2 (.int .i64 a)=some (kI a):=keyOf_int_mk Tryz.underlying2 (WalkArith.wf_i64 ha)
 have hlow:∀k ∈ blk (m.f a),base≤k∧k<W.heap.size:=blk_lt (h.wown a)
 have hmb:mb ∉ blk (m.f a):=fun hc=>by have:=hlow mb hc;have:=h.m1;omega
 have hC:C ∉ blk (m.f a):=fun hc=>by have:=hlow C hc;have:=h.c1;omega
 have M1:=map_same (w':=W1) h.map (h3.block mb h.map.lt hmb)
 have hnl:=h.nl
 have hml:=h.ml
 obtain⟨W2,hrun,M2,g2⟩:=M1.update (t:=108) (e:=22) lawK Tryz.underlying108 (by unfold maxLen;omega) HKY (val:=v') (d:=.held v') (ps:=[]) rfl
 have c2:Ch [mb] W1 W2:=⟨g2.os,g2.tape,g2.output,g2.size,fun k hk hn=>g2.block k hk (fun e=>hn (by cases e;simp))⟩
 have hbv:∀k ∈ blk v',base≤k∧k<W1.heap.size:=blk_lt h2
 refine⟨W2,m.D.put (kI a) (.held v'),hrun,⟨?_,?_,fun j hj => ?_,fun b hb=>hb,Nat.le_refl _⟩⟩
 ·refine { low:= ?_,c0:=h.c0,c1:=h.c1,m0:=h.m0,m1:=h.m1,cm:=h.cm,bz:=Nat.le_trans h.bz (Nat.le_trans h3.size c2.size),blk':= ?_,map:=M2,tidy:=h.tidy.put (kI_key _) _,look:=fun q => ?_,mown:= ?_,wown:=fun q => ?_,ap:=fun p q hpq k hk => ?_,am:=fun q k hk => ?_,wok:=fun q x hx => ?_,ml:=hml,nl:= ?_,wl:=fun q => ?_ }
  ·refine (h.low.trans (below_ch h3 h.low.size (fun k hk => ?_))).trans (below_ch c2 (Nat.le_trans h.low.size h3.size) (fun k hk => ?_))
   ·have:=hlow k hk;have:=h.c0;have:=h.c1;omega
   ·have e:k=mb:=by simpa using hk
    rw[e];exact h.m0
  ·exact (c2.block C (Nat.lt_of_lt_of_le (lt_of_block h.blk') h3.size) (by simpa using h.cm)).trans ((h3.block C (lt_of_block h.blk') hC).trans h.blk')
  ·show (m.D.put (kI a) (.held v')).atKey (kI q) _ = .held (if q=a then v' else m.f q)
   by_cases e:q=a
   ·subst e;rw[if_pos rfl];exact Maps.atKey_put_same h.tidy.isMap (kI_key _) _ _
   ·rw[if_neg e,Maps.atKey_put_other (kI_ne e)];exact h.look q
  ·refine row_ch (row_ch h.mown h3 (fun k hk hc=>h.am a k hc hk)) c2 (fun k hk hc => ?_)
   have e:k=mb:=by simpa using hc
   have:=blk_lt h.mown k hk;have:=h.m1;omega
  ·show rows.Own W2 base (if q=a then v' else m.f q) (if q=a then m.Wt a++L else m.Wt q)
   by_cases e:q=a
   ·rw[if_pos e,if_pos e]
    refine row_ch h2 c2 (fun k hk hc => ?_)
    have e:k=mb:=by simpa using hc
    have:=hbv k hk;have:=h.m1;omega
   ·rw[if_neg e,if_neg e]
    refine row_ch (row_ch (h.wown q) h3 (fun k hk hc=>h.ap q a e k hk hc)) c2 (fun k hk hc => ?_)
    have e:k=mb:=by simpa using hc
    have:=blk_lt (h.wown q) k hk;have:=h.m1;omega
  ·have hk':k ∈ blk (if p=a then v' else m.f p):=hk
   show k ∉ blk (if q=a then v' else m.f q)
   by_cases e1:p=a
   ·rw[if_pos e1]at hk'
    rw[if_neg (fun e=>hpq (e1.trans e.symm))]
    rcases h4 k hk' with e|e
    ·exact h.ap a q (fun e'=>hpq (e1.trans e')) k e
    ·exact fun hc=>by have:=blk_lt (h.wown q) k hc;omega
   ·rw[if_neg e1]at hk'
    by_cases e2:q=a
    ·rw[if_pos e2]
     intro hc
     rcases h4 k hc with e|e
     ·exact h.ap p a e1 k hk' e
     ·have:=blk_lt (h.wown p) k hk';omega
    ·rw[if_neg e2];exact h.ap p q hpq k hk'
  ·have hk':k ∈ blk (if q=a then v' else m.f q):=hk
   by_cases e1:q=a
   ·rw[if_pos e1]at hk'
    rcases h4 k hk' with e|e
    ·exact h.am a k e
    ·exact fun hc=>by have:=blk_lt h.mown k hc;omega
   ·rw[if_neg e1]at hk';exact h.am q k hk'
  ·have hx':x ∈ (if q=a then m.Wt a++L else m.Wt q):=hx
   by_cases e1:q=a
   ·rw[if_pos e1]at hx'
    rcases List.mem_append.1 hx' with e|e
    ·exact h.wok a x e
    ·exact hok x e
   ·rw[if_neg e1]at hx';exact h.wok q x hx'
  ·show m.n+1+s≤m.M.length
   omega
  ·show (if q=a then m.Wt a++L else m.Wt q).length+20*s≤20*m.M.length
   by_cases e1:q=a
   ·rw[if_pos e1,List.length_append];have:=h.wl a;omega
   ·rw[if_neg e1];have:=h.wl q;omega
 ·refine (chP_ch h3 (fun k hk => .inr (.inr (.inr ⟨a,hn,hk⟩)))).trans (chP_ch (S:=fun j=>j=mb) c2 (fun k hk=>by simpa using hk)) (fun j e => .inl (.inr (.inl e)))
 ·rcases hj with e|e|e|⟨k,hk,e⟩
  ·exact .inl (.inl e)
  ·exact .inl (.inr (.inl e))
  ·exact .inl (.inr (.inr (.inl e)))
  ·have e':j ∈ blk (if k=a then v' else m.f k):=e
   by_cases e1:k=a
   ·rw[if_pos e1]at e'
    exact (h4 j e').imp (fun e => .inr (.inr (.inr ⟨a,hn,e⟩))) id
   ·rw[if_neg e1]at e'
    exact .inl (.inr (.inr (.inr ⟨k,hk,e'⟩)))
end Go.Proofs.YtocidankimefpaaGreatDoor.hp
namespace Go.Proofs.YtocidankimefpaaGreatDoor.hp
open Go.RowKit rows heads words walks
set_option maxRecDepth 100000
set_option linter.unusedVariables false
set_option linter.unusedSimpArgs false
set_option maxHeartbeats 8000000 in
theorem leadsToNote_any {w:World} {up:Int} {a5:Option Addr} {c5:Nat} {ds:List Pd} (h:PdsAt w (.slice a5 ds.length c5) ds) (hs:SlicesP ds) (hr:RiseP ds) (hl:ds.length≤1048576) (x:Int) (b1 : -9223372036854775808≤x) (b2:x≤9223372036854775807) {t:Bool} (hn:ledB ds x=false→t=false) (hy:ledB ds x=true→∀i,i<ds.length→(ds.getD i pdD).pl=av x→((ds.getD i pdD).f==7)=t) :
    Calls Tryz.prog 74 #[rmv up (.slice a5 ds.length c5),.int .i64 x] w fun e w'=>e = .returned (.bool t)∧Below w.heap.size w w':=by
 have HALL:Hid (∃X,X=w.alloc (rmb up (.slice a5 ds.length c5))∧X.heap[w.heap.size]? = some (rmb up (.slice a5 ds.length c5))∧Below w.heap.size w X):=⟨_,rfl,heap_alloc_new _ _,(Below.refl _ _).alloc (Nat.le_refl _) _⟩
 have HLB:Hid (∀X,Below w.heap.size w X→_):=fun X hX=>ledBy_any (up:=up) (pdsAt_below h hX) hs hr hl x b1 b2
 have HNT:Hid (∀(s f c h:Int) (p m:Bool) (u:Value) (V:World),Calls Tryz.prog 70 #[cv s f c h p m u] V fun e w'=>e = .returned (.bool (f==7))∧Below V.heap.size V w'):=fun s f c h p m u V=>(isNote_any s f c h p m u V).mono (fun e w' ⟨he,hw⟩=>⟨he,by rw[hw];exact (Below.refl _ _).alloc (Nat.le_refl _) _⟩)
 have HSL:Hid _:=hs
 have HY:Hid _:=hy
 have HN:Hid _:=hn
 clear h hs hr hl hn hy
 cases hb:ledB ds x
 ·have e0:t=false:=HN.out hb
  subst e0
  have HBB:Hid _:=hb
  clear hb HY HN
  go_enter Tryz.func74,Tryz.ntmps74
  go_upto_region 1 with fail
  obtain⟨X,hX,QX,BX⟩:=HALL.out
  rw[←hX]
  clear hX HALL
  obtain⟨⟨k0,k1⟩,_⟩:=rmb_cells QX
  have LB:=(HLB.out X BX).mono (fun e w' (g:_∧_∧_)=>(⟨g.1 HBB.out,g.2.2⟩:e = .returned (.tuple #[pdv pdD,.bool false])∧Below _ _ w'))
  have HBX:Hid _:=BX
  clear HLB QX BX
  go_wp2_with (go_at_call 121;refine LB.mono ?_;clear LB;rintro e w3 ⟨rfl,b3⟩;have HB3:Hid _:=(HBX.out.trans (b3.mono HBX.out.size)).alloc (Nat.le_trans HBX.out.size b3.size) (pdb pdD);clear b3)
  go_ret
  exact⟨rfl,HB3.out⟩
 ·have HBB:Hid _:=hb
  clear hb HN
  have HLC:Hid (∀X,Below w.heap.size w X→Calls Tryz.prog 121 #[rmv up (.slice a5 ds.length c5),.int .i64 x] X fun e w'=>(∃ds' df dc dh dp dm sa sn sc dl,e = .returned (.tuple #[pdv ⟨ds',df,dc,dh,dp,dm,.slice sa sn sc,dl⟩,.bool true])∧(df==7)=t)∧Below X.heap.size X w'):=fun X hX=>(HLB.out X hX).mono (fun e w' (g:_∧_∧_)=>by
   obtain⟨i,hi,hpl,he⟩:=g.2.1 HBB.out
   have hf:=HY.out HBB.out i hi hpl
   obtain⟨sa,sn,sc,hsv⟩:=HSL.out _ (mem_getDP hi)
   obtain⟨d,hd⟩:∃d,ds.getD i pdD=d:=⟨_,rfl⟩
   rw[hd]at hsv he hf
   obtain⟨ds',df,dc,dh,dp,dm,du,dl⟩:=d
   simp only at hsv hf
   subst hsv
   exact⟨⟨_,_,_,_,_,_,_,_,_,_,he,hf⟩,g.2.2⟩)
  clear HLB HY
  go_enter Tryz.func74,Tryz.ntmps74
  go_upto_region 1 with fail
  obtain⟨X,hX,QX,BX⟩:=HALL.out
  rw[←hX]
  clear hX HALL
  obtain⟨⟨k0,k1⟩,_⟩:=rmb_cells QX
  have LB:=HLC.out X BX
  have HBX:Hid _:=BX
  clear HLC QX BX
  go_upto_region 2 with (go_at_call 121;refine LB.mono ?_;clear LB;rintro e w3 ⟨⟨ds',df,dc,dh,dp,dm,sa,sn,sc,dl,rfl,hdf⟩,b3⟩;have HDF:Hid _:=hdf;have HB3:Hid _:=HBX.out.trans (b3.mono HBX.out.size);clear b3 hdf)
  have HQ3:Hid _:=heap_alloc_new w3 (pdb ⟨ds',df,dc,dh,dp,dm,.slice sa sn sc,dl⟩)
  have HB4:Hid _:=HB3.out.alloc HB3.out.size (pdb ⟨ds',df,dc,dh,dp,dm,.slice sa sn sc,dl⟩)
  obtain⟨⟨p0,p1,p2,p3,p4,p5,p6,p7⟩,_⟩:=pdb_cells HQ3.out
  simp only at p0 p1 p2 p3 p4 p5 p6 p7
  generalize w3.alloc (pdb ⟨ds',df,dc,dh,dp,dm,.slice sa sn sc,dl⟩)=Y at *
  have NT:=HNT.out ds' df dc dh dp dm (.slice sa sn sc) Y
  rw[HDF.out]at NT
  go_wp2_with (go_at_call 70;refine NT.mono ?_;clear NT;rintro e w6 ⟨rfl,b6⟩;have HB6:Hid _:=HB4.out.trans (b6.mono HB4.out.size);clear b6)
  go_ret
  exact⟨rfl,HB6.out⟩
def idxN (tn:Int→Bool) (xs:List Int):Int:=match xs.findIdx? (tn) with|some i=>(i:Int)|none => -1
theorem idxN_at {tn:Int→Bool} {xs:List Int} {k:Nat} (hk:k<xs.length) (h:tn (xs.getD k 0)=true) (hn:∀m,m<k→tn (xs.getD m 0)=false):idxN tn xs=k:=by
 unfold idxN
 have e:xs.findIdx? (tn)=some k:=by
  rw[List.findIdx?_eq_some_iff_getElem]
  refine⟨hk,?_,fun j hj => ?_⟩
  ·simpa [List.getD_eq_getElem?_getD,List.getElem?_eq_getElem hk] using h
  ·have:=hn j hj
   simpa [List.getD_eq_getElem?_getD,List.getElem?_eq_getElem (show j<xs.length by omega)] using this
 rw[e]
theorem idxN_no {tn:Int→Bool} {xs:List Int} (hn:∀m,m<xs.length→tn (xs.getD m 0)=false):idxN tn xs = -1:=by
 unfold idxN
 have e:xs.findIdx? (tn)=none:=by
  rw[List.findIdx?_eq_none_iff]
  intro x hx
  obtain⟨m,hm,rfl⟩:=List.getElem_of_mem hx
  have:=hn m hm
  simpa [List.getD_eq_getElem?_getD,List.getElem?_eq_getElem hm] using this
 rw[e]
theorem idxN_any (tn:Int→Bool) (xs:List Int):decide (idxN tn xs ≥ 0)=xs.any (tn):=by
 unfold idxN
 cases e:xs.findIdx? (tn) with
 |none=>
  rw[List.findIdx?_eq_none_iff]at e
  have:xs.any (tn)=false:=by
   rw[List.any_eq_false]
   intro x hx h
   rw[e x hx]at h;cases h
  rw[this];decide
 |some i=>
  rw[List.findIdx?_eq_some_iff_getElem]at e
  obtain⟨hi,ht,_⟩:=e
  have:xs.any (tn)=true:=by
   rw[List.any_eq_true]
   exact⟨_,List.getElem_mem hi,ht⟩
  rw[this];simp
set_option maxHeartbeats 4000000 in
theorem indexNote_any {w:World} {up:Int} {tn:Int→Bool} {a:Option Addr} {n c:Nat} {u:Value} {xs:List Int} (h:IntsAt w u xs) (hl:xs.length≤1048576) (hy:∀V,Below w.heap.size w V→∀x ∈ xs,Calls Tryz.prog 74 #[rmv up (.slice a n c),.int .i64 x] V fun e w'=>e = .returned (.bool (tn x))∧Below V.heap.size V w') :
    Calls Tryz.prog 119 #[u,.func (.func 74) #[rmv up (.slice a n c)] #[]] w fun e w'=>e = .returned (.int .i64 (idxN tn xs))∧Below w.heap.size w w':=by
 have HI:Hid _:=h
 have HA:Hid _:=hy
 obtain⟨a2,cap2,rfl,_,_,_,_⟩:=h
 obtain⟨R,hR⟩:∃R,idxN tn xs=R:=⟨_,rfl⟩
 rw[hR]
 have HR:Hid _:=hR
 clear hR hy
 go_enter Tryz.func119,Tryz.ntmps119
 go_wp2_with fail
 go_loopw [5,8] (fun _ q wr=>∃k:Nat,k≤xs.length∧q = .int .i64 (k:Int)∧(∀m,m<k→tn (xs.getD m 0)=false)∧Below w.heap.size w wr) (fun _ q _=>xs.length-(intOf q).toNat)
 case atStart=>exact⟨0,Nat.zero_le _,rfl,fun m hm=>by omega,Below.refl _ _⟩
 case round=>
  obtain⟨k,hk,rfl,hne,hB⟩:=hrel
  have HNE:Hid _:=hne
  have HB:Hid _:=hB
  by_cases hlt:k<xs.length
  ·obtain⟨b,off,ea,_,x0⟩:=ints_cellI (intsAt_below HI.out hB) hlt
   subst ea
   obtain⟨y,hy⟩:∃y,xs.getD k 0=y:=⟨_,rfl⟩
   have CY:=HA.out wr hB y (by rw[←hy,List.getD_eq_getElem?_getD,List.getElem?_eq_getElem hlt];exact List.getElem_mem hlt)
   have HF1:Hid (tn y=false→∀m,m<k+1→tn (xs.getD m 0)=false):=fun e m hm=>by
    by_cases e':m=k
    ·rw[e',hy];exact e
    ·exact HNE.out m (by omega)
   have HF2:Hid (tn y=true→R=k):=fun e=>HR.out.symm.trans (idxN_at hlt (by rw[hy];exact e) HNE.out)
   rw[hy]at x0
   have hlt':(k:Int)<(xs.length:Int):=by omega
   clear hne hB hy
   cases hw:tn y
   ·rw[hw]at CY
    have HV:Hid _:=HF1.out hw
    clear hw HF1 HF2
    go_wp2_with (go_at_call 74;refine CY.mono ?_;clear CY;rintro e w3 ⟨rfl,b3⟩;have HB3:Hid _:=HB.out.trans (b3.mono HB.out.size);clear b3)
    exact⟨⟨k+1,by omega,by go_num,HV.out,HB3.out⟩,by simp[intOf];omega⟩
   ·rw[hw]at CY
    have HV:Hid _:=HF2.out hw
    clear hw HF1 HF2
    go_wp2_with (go_at_call 74;refine CY.mono ?_;clear CY;rintro e w3 ⟨rfl,b3⟩;have HB3:Hid _:=HB.out.trans (b3.mono HB.out.size);clear b3)
    go_ret
    exact⟨by rw[HV.out];rfl,HB3.out⟩
  ·have hlt':¬(k:Int)<(xs.length:Int):=by omega
   have HF:Hid (R = -1):=by show _=_;rw[←HR.out];exact idxN_no (fun m hm=>hne m (by omega))
   clear hne hB
   go_wp2
   go_ret
   exact⟨by rw[HF.out];rfl,HB.out⟩
theorem containsNote_any {w:World} {up:Int} {tn:Int→Bool} {a:Option Addr} {n c:Nat} {u:Value} {xs:List Int} (h:IntsAt w u xs) (hl:xs.length≤1048576) (hy:∀V,Below w.heap.size w V→∀x ∈ xs,Calls Tryz.prog 74 #[rmv up (.slice a n c),.int .i64 x] V fun e w'=>e = .returned (.bool (tn x))∧Below V.heap.size V w') :
    Calls Tryz.prog 72 #[u,.func (.func 74) #[rmv up (.slice a n c)] #[]] w fun e w'=>e = .returned (.bool (xs.any (tn)))∧Below w.heap.size w w':=by
 have IX:=indexNote_any (up:=up) (tn:=tn) (a:=a) (n:=n) (c:=c) h hl hy
 obtain⟨a2,cap2,rfl,_,_,_,_⟩:=h
 rw[←idxN_any tn]
 generalize idxN tn xs=R at *
 clear hy
 go_enter Tryz.func72,Tryz.ntmps72
 go_wp2_with (go_at_call 119;refine IX.mono ?_;clear IX;rintro e w3 ⟨rfl,b3⟩;have HB3:Hid _:=b3;clear b3)
 go_ret
 exact⟨rfl,HB3.out⟩
set_option maxHeartbeats 16000000 in
theorem seeAnew_any {w:World} {P:Nat} {a1 a2 a3 a4:Option Addr} {c1 c2 c3 c4:Nat} {H:Hp} (hT:Nine w P 26 (.int .i64 H.half) (.int .i64 H.old) (.slice a1 H.row.length c1) (.int .i64 H.side) (.int .i64 H.top) (.slice a2 H.roots.length c2) (.slice a3 H.mourned.length c3) (.slice a4 H.seen.length c4) (.int .i64 H.seed))
    (h:HpAt w (.slice a1 H.row.length c1) (.slice a2 H.roots.length c2) (.slice a3 H.mourned.length c3) (.slice a4 H.seen.length c4) H) (hn:numB H=true) (hr:roomB a1 H=true) (ha:AllI H.row) :
    Calls Tryz.prog 38 #[.pointer (some ⟨P,0,none⟩)] w fun e w'=>∃u,e = .returned (.tuple #[])∧rows.Own w' w.heap.size u (seenL H)∧Nine w' P 26 (.int .i64 H.half) (.int .i64 H.old) (.slice a1 H.row.length c1) (.int .i64 H.side) (.int .i64 H.top) (.slice a2 H.roots.length c2) (.slice a3 H.mourned.length c3) u (.int .i64 H.seed)∧Ch [P] w w':=by
 have RO:=(roomsOf_any h hn ha).mono (fun e w' (hh:_∧_∧_)=>(⟨hh.2.1 hr,hh.2.2⟩:(∃v',e = .returned (.tuple #[.agg #[.int .i64 (2*H.half),v'],.bool true])∧OwnP w' w.heap.size v' (objsP a1 H))∧Below w.heap.size w w'))
 have HMS:Hid (∀V a5 c5,Below w.heap.size w V→PdsAt V (.slice a5 (objsP a1 H).length c5) (objsP a1 H)→Calls Tryz.prog 68 #[rmv (2*H.half) (.slice a5 (objsP a1 H).length c5)] V fun e w'=>∃u,e = .returned u∧rows.Own w' V.heap.size u (seenL H)∧Below V.heap.size V w'):=fun V a5 c5 hV hp=>by
  have r:=roomsAt_of (intsAt_below h.1 hV) hn hr ha hp
  have:=mustSee_any (up:=2*H.half) r.pds r.slices (Nat.le_trans r.len (by decide)) r.slots
  rwa [seen_same hn hr]at this
 have HT:Hid _:=hT
 have sP:=lt_of_block hT
 obtain⟨⟨z0,z1,z2,z3,z4⟩,⟨z5,z6,z7,z8⟩,_⟩:=nine_cells hT
 clear hT h hn hr ha
 go_enter Tryz.func38,Tryz.ntmps38
 go_upto_region 1 with (go_at_call 82;refine RO.mono ?_;clear RO z0 z1 z2 z3 z4 z5 z6 z7 z8;rintro e w1 ⟨⟨v1,rfl,O1⟩,b1⟩;have HB1:Hid _:=b1;have HO1:Hid _:=ownP_at O1;obtain⟨a5,c5,rfl⟩:=pds_slice (ownP_at O1);clear b1 O1)
 have B2:Below w1.heap.size w1 (w1.alloc (rmb (2*H.half) (.slice a5 (objsP a1 H).length c5))):=(Below.refl _ _).alloc (Nat.le_refl _) _
 have HB2:Hid _:=HB1.out.trans (B2.mono HB1.out.size)
 obtain⟨⟨r0,r1⟩,_⟩:=rmb_cells (heap_alloc_new w1 (rmb (2*H.half) (.slice a5 (objsP a1 H).length c5)))
 have MS:=HMS.out _ a5 c5 HB2.out (pdsAt_below HO1.out B2)
 clear B2 HO1 HMS HB1
 generalize w1.alloc (rmb (2*H.half) (.slice a5 (objsP a1 H).length c5))=Y at *
 go_wp2_with (go_at_call 68;refine MS.mono ?_;clear MS;rintro e w3 ⟨u3,rfl,O3,b3⟩;have B3:=HB2.out.trans (b3.mono HB2.out.size);have T3:=nine_below HT.out B3;obtain⟨⟨z0,z1,z2,z3,z4⟩,⟨z5,z6,z7,z8⟩,zf⟩:=nine_cells T3;have f7:=zf 7;have HO3:Hid _:=own_base O3 HB2.out.size;have HT3:Hid _:=T3;have HB3:Hid _:=B3;obtain⟨ua,un,uc,rfl⟩:=ints_slice (own_ints O3);clear O3 b3 B3 T3 zf)
 refine bodyPost_end (results_none rfl _ _ _) rfl ⟨_,rfl,?_,nine_set7 HT3.out _,(ch_below HB3.out).trans (one_ch _ _ _ _)⟩
 exact row_ch (S:=[P]) HO3.out (one_ch _ _ _ _) (fun j hj=>by have:=(blk_lt HO3.out j hj).1;simp;omega)
end Go.Proofs.YtocidankimefpaaGreatDoor.hp
