/- errors.Is over the program's own wrapped -/
import Derived.Test.YtocidankimefpaaGreatDoorChecked
import Derived.Test.YtocidankimefpaaGreatDoorM1
import Derived.LaidEql
import Derived.Stop.Asserts
import Derived.RowKitTokens
set_option maxRecDepth 100000
namespace Go.Proofs.YtocidankimefpaaGreatDoor.er
open Go.RowKit Go.Extern.Stop Go.Stop Go.Extern
theorem DE (v:Value) (w:World):(Extern.ReflectliteType.typeOf #[.iface 240 v]).run Tryz.prog w = .ok (.iface 140 (.agg #[.pointer (some ⟨2,240,none⟩)])) w:=by kernel_rfl
theorem uB (w:World):((Extern.ReflectliteType.method fun t=>do Rtype.noPackHeld "Comparable" t;pure (.bool (←typeInfo t).comparable)) #[.agg #[.pointer (some ⟨2,240,none⟩)]]).run Tryz.prog w = .ok (.bool true) w:=by kernel_rfl
theorem lL (v:Value) (w:World):(Go.method 377 140 v "Comparable").run Tryz.prog w = .ok (231,v) w:=by kernel_rfl
theorem GZ:(Tryz.prog.info? 240).map (·.comparable)=some true:=by kernel_rfl
theorem H8:(Tryz.prog.info? 265).map (·.size)=some 1:=by kernel_rfl
theorem J2 (v:Value) (xT:TypeId) (w:World):(Instr.typeAssert (.iface 83 v) xT 142 true).run Tryz.prog w = .ok (.tuple #[.nilIface,.bool false]) w:=run_typeAssert_lacksB Tryz.underlying142 (by kernel_rfl) (by kernel_rfl) v xT w
theorem zC (v:Value) (xT:TypeId) (w:World):(Instr.typeAssert (.iface 83 v) xT 145 true).run Tryz.prog w = .ok (.tuple #[.iface 83 v,.bool true]) w:=run_typeAssert_hasB Tryz.underlying145 (by kernel_rfl) v xT w
theorem uD (v:Value) (w:World):(Go.method 377 83 v "Unwrap").run Tryz.prog w = .ok (227,v) w:=by kernel_rfl
theorem zD (v:Value) (w:World):(callFunc 47 #[.iface 240 v]).run Tryz.prog w = .ok (.value (.iface 140 (.agg #[.pointer (some ⟨2,240,none⟩)]))) w:=by
 have h8:= @run_callFunc_extern Tryz.prog 47 _ Extern.ReflectliteType.typeOf Tryz.func47 (by kernel_rfl) (by kernel_rfl) (by kernel_rfl) (by kernel_rfl);rw[h8,DE];rfl
theorem rF (w:World):(callFunc 231 #[.agg #[.pointer (some ⟨2,240,none⟩)]]).run Tryz.prog w = .ok (.value (.bool true)) w:=by
 have h32:= @run_callFunc_extern Tryz.prog 231 _ (Extern.ReflectliteType.method fun t=>do Rtype.noPackHeld "Comparable" t;pure (.bool (←typeInfo t).comparable)) Tryz.func231 (by kernel_rfl) (by kernel_rfl) (by kernel_rfl) (by kernel_rfl);rw[h32,uB];rfl
theorem Hc (b:Addr) (w:World) :
    Calls Tryz.prog 20 #[.nilIface,.iface 240 (.pointer (some b))] w fun e w'=>e = .returned (.bool false)∧w'=w:=by
 have hn:=run_eql_iface_nil_left (P:=Tryz.prog) w 240 (.pointer (some b)) Tryz.underlying43;go_enter Tryz.func20,Tryz.ntmps20;go_wp2;go_ret;exact⟨rfl,rfl⟩
set_option maxHeartbeats 4000000 in
theorem zE (n:Int) (b:Addr) (w:World) :
    Calls Tryz.prog 20 #[.iface 83 (.agg #[.int .i64 n,.iface 240 (.pointer (some b))]),.iface 240 (.pointer (some b))] w fun e w'=>e = .returned (.bool true)∧Below w.heap.size w w':=by
 obtain⟨i,hi,hcmp⟩:=Option.map_eq_some_iff.1 GZ;obtain⟨j,hj,hjs⟩:=Option.map_eq_some_iff.1 H8;have tT:=zD;have cT:=rF;have mR:=lL;have nW:=J2;have uW:=zC;have mU:=uD;have hty:=run_eql_iface_types (P:=Tryz.prog) 83 240 (.agg #[.int .i64 n,.iface 240 (.pointer (some b))]) (.pointer (some b)) Tryz.underlying43 (by decide) w;have heq:=run_eql_iface_ptr_same (P:=Tryz.prog) (w.alloc (.cells #[.int .i64 n,.iface 240 (.pointer (some b))] 83)) b Tryz.underlying43 Tryz.underlying240 hi hcmp hj;go_enter Tryz.func20,Tryz.ntmps20;go_wp2;refine wp_loop_rounds 2 ?_;rw[rounds_succ];go_wp2;rw[rounds_succ];go_wp2;go_ret;exact⟨rfl,(Below.refl _ _).alloc (Nat.le_refl _) _⟩
end Go.Proofs.YtocidankimefpaaGreatDoor.er
namespace Go.Proofs.YtocidankimefpaaGreatDoor.region
open Go
theorem rG {P:Program} {id:Nat} {ops:Array Oper} {Q:Exit→Act→World→Prop} {a0:Act} {w:World} (hm:P.follows .mixedOrders=true) (D:Nat→Bool)
    (hg:∀o ∈ ops,o.guard=none) (hacyc:∀(k:Nat) (o:Oper),ops[k]? = some o→∀e ∈ o.after,Region.binds .any e=true→e.on<k) (n c1 c2 c3 c4:Nat) (hn:ops.size=n+1) (h1n:c1<n) (h2n:c2<n) (h3n:c3<n) (h4n:c4<n) (h12:c1≠c2) (h13:c1≠c3) (h14:c1≠c4) (h23:c2≠c3) (h24:c2≠c4) (h34:c3≠c4) (dst:Nat→Nat) (hinj:∀k,k<n→∀j,j<n→dst j=dst k→j=k)
    (F:Nat→Value→Prop) (A0:World→Prop) (A1 A2 A3 A4:Value→World→Prop) (hA:A0 w.drew)
    (hall:∀o,ops[n]? = some o→∀j,j<n→∃e ∈ o.after,e.on=j∧Region.binds .any e=true)
    (he2:∀o,ops[c2]? = some o→∃e ∈ o.after,e.on=c1∧Region.binds .any e=true)
    (he3:∀o,ops[c3]? = some o→∃e ∈ o.after,e.on=c2∧Region.binds .any e=true)
    (he4:∀o,ops[c4]? = some o→∃e ∈ o.after,e.on=c3∧Region.binds .any e=true)
    (step:∀k o u W,k<n→k≠c1→k≠c2→k≠c3→k≠c4→ops[k]? = some o→(A0 W∨A1 (u (dst c1)) W∨A2 (u (dst c2)) W∨A3 (u (dst c3)) W∨A4 (u (dst c4)) W)→(∀j,j<n→(∃e ∈ o.after,e.on=j∧Region.binds .any e=true)→F j (u (dst j)))→o.wp P (ovr D a0 u) W (fun a' W'=>∃v,a'=ovr D a0 (upd u (dst k) v)∧W'=W∧F k v) Q)
    (call1:∀o u W,ops[c1]? = some o→A0 W→(∀j,j<n→(∃e ∈ o.after,e.on=j∧Region.binds .any e=true)→F j (u (dst j)))→o.wp P (ovr D a0 u) W (fun a' W'=>∃v,a'=ovr D a0 (upd u (dst c1) v)∧A1 v W'∧F c1 v) Q)
    (call2:∀o u W,ops[c2]? = some o→A1 (u (dst c1)) W→(∀j,j<n→(∃e ∈ o.after,e.on=j∧Region.binds .any e=true)→F j (u (dst j)))→o.wp P (ovr D a0 u) W (fun a' W'=>∃v,a'=ovr D a0 (upd u (dst c2) v)∧A2 v W'∧F c2 v) Q)
    (call3:∀o u W,ops[c3]? = some o→A2 (u (dst c2)) W→(∀j,j<n→(∃e ∈ o.after,e.on=j∧Region.binds .any e=true)→F j (u (dst j)))→o.wp P (ovr D a0 u) W (fun a' W'=>∃v,a'=ovr D a0 (upd u (dst c3) v)∧A3 v W'∧F c3 v) Q)
    (call4:∀o u W,ops[c4]? = some o→A3 (u (dst c3)) W→(∀j,j<n→(∃e ∈ o.after,e.on=j∧Region.binds .any e=true)→F j (u (dst j)))→o.wp P (ovr D a0 u) W (fun a' W'=>∃v,a'=ovr D a0 (upd u (dst c4) v)∧A4 v W'∧F c4 v) Q)
    (last:∀o u W,ops[n]? = some o→A4 (u (dst c4)) W→(∀j,j<n→F j (u (dst j)))→o.wp P (ovr D a0 u) W (fun a' W'=>∃u',a'=ovr D a0 u'∧Q .normal (ovr D a0 u') W') Q) :
    (Code.region id ops true).wp P Q a0 w:=by
 refine gd hm D hg hacyc (fun l u W=>(l.getD n false=false∧(l.getD c1 false=false→l.getD c2 false=false)∧(l.getD c2 false=false→l.getD c3 false=false)∧(l.getD c3 false=false→l.getD c4 false=false)∧(l.getD c1 false=false→A0 W)∧(l.getD c1 false=true→l.getD c2 false=false→A1 (u (dst c1)) W)∧(l.getD c2 false=true→l.getD c3 false=false→A2 (u (dst c2)) W)∧(l.getD c3 false=true→l.getD c4 false=false→A3 (u (dst c3)) W)∧(l.getD c4 false=true→A4 (u (dst c4)) W)∧∀k,k<n→l.getD k false=true→F k (u (dst k)))∨((∀k,k<n+1→l.getD k false=true)∧Q .normal (ovr D a0 u) W)) (.inl ⟨?_,fun _ => ?_,fun _ => ?_,fun _ => ?_,fun _=>hA,fun h => ?_,fun h => ?_,fun h => ?_,fun h => ?_,fun k hk h => ?_⟩) ?_ ?_
 ·simp[Array.getD,hn]
 ·simp[Array.getD,hn]
 ·simp[Array.getD,hn]
 ·simp[Array.getD,hn]
 ·simp[Array.getD,hn,show c1<n+1 by omega]at h
 ·simp[Array.getD,hn,show c2<n+1 by omega]at h
 ·simp[Array.getD,hn,show c3<n+1 by omega]at h
 ·simp[Array.getD,hn,show c4<n+1 by omega]at h
 ·simp[Array.getD,hn,show k<n+1 by omega]at h
 ·rintro l u W (⟨h1,_⟩|⟨_,h⟩) hA
  ·rw[hA n (by omega)]at h1;cases h1
  ·exact h
 ·rintro l u W k o (⟨h1,k12,k23,k34,B0,B1,B2,B3,B4,hF⟩|⟨hA,_⟩) hl hlk ho hd
  case inr=>
   have hk:k<n+1:=by rw[←hn];exact (Array.getElem?_eq_some_iff.1 ho).1
   rw[hA k hk]at hlk;cases hlk
  have hk:k<n+1:=by rw[←hn];exact (Array.getElem?_eq_some_iff.1 ho).1
  by_cases e:k=n
  ·subst e
   have hA:∀j,j<k→l.getD j false=true:=fun j hj=>by
    obtain⟨e,he,rfl,hb⟩:=hall o ho j hj;exact hd e he hb
   refine Oper.wp_mono ?_ (last o u W ho (B4 (hA c4 h4n)) (fun j hj=>hF j hj (hA j hj)));rintro a' W' ⟨u',rfl,h⟩;refine⟨u',rfl,.inr ⟨fun j hj => ?_,h⟩⟩
   by_cases e:j=k
   ·subst e;exact aN (by omega)
   ·rw[a8 l (Ne.symm e)];exact hA j (by omega)
  ·have hk':k<n:=by omega
   have hfd:∀j,j<n→(∃e ∈ o.after,e.on=j∧Region.binds .any e=true)→F j (u (dst j)):=fun j hj ⟨e,he,e1,hb⟩=>hF j hj (by rw[←e1];exact hd e he hb)
   have hput:∀ {v:Value},F k v→∀j,j<n→(l.set! k true).getD j false=true→F j ((upd u (dst k) v) (dst j)):=fun {v} hv=>iU (dst:=dst) (F:=fun k t _=>F k t) (w:=W) (w':=W) (hinj k hk') hF (fun j _ _ _ t z=>z) hv
   have dne:∀c,c<n→c≠k→∀v,(upd u (dst k) v) (dst c)=u (dst c):=fun c hc hck v=>yT (fun e=>hck (hinj k hk' c hc e))
   by_cases ec1:k=c1
   ·subst ec1;have l2:=k12 hlk;have l3:=k23 l2;have l4:=k34 l3;refine Oper.wp_mono ?_ (call1 o u W ho (B0 hlk) hfd);rintro a' W' ⟨v,rfl,hb,hv⟩;refine⟨_,rfl,.inl ⟨?_,fun h => ?_,fun _ => ?_,fun _ => ?_,fun h => ?_,fun _ _ => ?_,fun h => ?_,fun h => ?_,fun h => ?_,hput hv⟩⟩
    ·rw[a8 l e];exact h1
    ·rw[aN (by omega)]at h;cases h
    ·rw[a8 l h13];exact l3
    ·rw[a8 l h14];exact l4
    ·rw[aN (by omega)]at h;cases h
    ·rw[gZ];exact hb
    ·rw[a8 l h12,l2]at h;cases h
    ·rw[a8 l h13,l3]at h;cases h
    ·rw[a8 l h14,l4]at h;cases h
   ·skip
    by_cases ec2:k=c2
    ·subst ec2
     have l1:l.getD c1 false=true:=by
      obtain⟨e,he,e1,hb⟩:=he2 o ho;rw[←e1];exact hd e he hb
     have l3:=k23 hlk;have l4:=k34 l3;refine Oper.wp_mono ?_ (call2 o u W ho (B1 l1 hlk) hfd);rintro a' W' ⟨v,rfl,hb,hv⟩;refine⟨_,rfl,.inl ⟨?_,fun h => ?_,fun h => ?_,fun _ => ?_,fun h => ?_,fun _ h => ?_,fun _ _ => ?_,fun h => ?_,fun h => ?_,hput hv⟩⟩
     ·rw[a8 l e];exact h1
     ·rw[a8 l (Ne.symm h12),l1]at h;cases h
     ·rw[aN (by omega)]at h;cases h
     ·rw[a8 l h24];exact l4
     ·rw[a8 l (Ne.symm h12),l1]at h;cases h
     ·rw[aN (by omega)]at h;cases h
     ·rw[gZ];exact hb
     ·rw[a8 l h23,l3]at h;cases h
     ·rw[a8 l h24,l4]at h;cases h
    ·skip
     by_cases ec3:k=c3
     ·subst ec3
      have l2:l.getD c2 false=true:=by
       obtain⟨e,he,e1,hb⟩:=he3 o ho;rw[←e1];exact hd e he hb
      have l1:l.getD c1 false=true:=by
       cases hh:l.getD c1 false
       ·rw[k12 hh]at l2;cases l2
       ·rfl
      have l4:=k34 hlk;refine Oper.wp_mono ?_ (call3 o u W ho (B2 l2 hlk) hfd);rintro a' W' ⟨v,rfl,hb,hv⟩;refine⟨_,rfl,.inl ⟨?_,fun h => ?_,fun h => ?_,fun h => ?_,fun h => ?_,fun _ h => ?_,fun _ h => ?_,fun _ _ => ?_,fun h => ?_,hput hv⟩⟩
      ·rw[a8 l e];exact h1
      ·rw[a8 l (Ne.symm h13),l1]at h;cases h
      ·rw[a8 l (Ne.symm h23),l2]at h;cases h
      ·rw[aN (by omega)]at h;cases h
      ·rw[a8 l (Ne.symm h13),l1]at h;cases h
      ·rw[a8 l (Ne.symm h23),l2]at h;cases h
      ·rw[aN (by omega)]at h;cases h
      ·rw[gZ];exact hb
      ·rw[a8 l h34,l4]at h;cases h
     ·skip
      by_cases ec4:k=c4
      ·subst ec4
       have l3:l.getD c3 false=true:=by
        obtain⟨e,he,e1,hb⟩:=he4 o ho;rw[←e1];exact hd e he hb
       have l2:l.getD c2 false=true:=by
        cases hh:l.getD c2 false
        ·rw[k23 hh]at l3;cases l3
        ·rfl
       have l1:l.getD c1 false=true:=by
        cases hh:l.getD c1 false
        ·rw[k12 hh]at l2;cases l2
        ·rfl
       refine Oper.wp_mono ?_ (call4 o u W ho (B3 l3 hlk) hfd);rintro a' W' ⟨v,rfl,hb,hv⟩;refine⟨_,rfl,.inl ⟨?_,fun h => ?_,fun h => ?_,fun h => ?_,fun h => ?_,fun _ h => ?_,fun _ h => ?_,fun _ h => ?_,fun _ => ?_,hput hv⟩⟩
       ·rw[a8 l e];exact h1
       ·rw[a8 l (Ne.symm h14),l1]at h;cases h
       ·rw[a8 l (Ne.symm h24),l2]at h;cases h
       ·rw[a8 l (Ne.symm h34),l3]at h;cases h
       ·rw[a8 l (Ne.symm h14),l1]at h;cases h
       ·rw[a8 l (Ne.symm h24),l2]at h;cases h
       ·rw[a8 l (Ne.symm h34),l3]at h;cases h
       ·rw[aN (by omega)]at h;cases h
       ·rw[gZ];exact hb
      ·skip
       have hAB:A0 W∨A1 (u (dst c1)) W∨A2 (u (dst c2)) W∨A3 (u (dst c3)) W∨A4 (u (dst c4)) W:=by
        cases hh1:l.getD c1 false
        ·exact .inl (B0 hh1)
        ·skip
         cases hh2:l.getD c2 false
         ·exact .inr (.inl (B1 hh1 hh2))
         ·skip
          cases hh3:l.getD c3 false
          ·exact .inr (.inr (.inl (B2 hh2 hh3)))
          ·skip
           cases hh4:l.getD c4 false
           ·exact .inr (.inr (.inr (.inl (B3 hh3 hh4))))
           ·exact .inr (.inr (.inr (.inr (B4 hh4))))
       refine Oper.wp_mono ?_ (step k o u W hk' ec1 ec2 ec3 ec4 ho hAB hfd);rintro a' W' ⟨v,rfl,rfl,hv⟩;refine⟨_,rfl,.inl ⟨?_,fun h => ?_,fun h => ?_,fun h => ?_,fun h=>B0 ?_,fun h h' => ?_,fun h h' => ?_,fun h h' => ?_,fun h => ?_,hput hv⟩⟩
       ·rw[a8 l e];exact h1
       ·rw[a8 l ec1]at h;rw[a8 l ec2];exact k12 h
       ·rw[a8 l ec2]at h;rw[a8 l ec3];exact k23 h
       ·rw[a8 l ec3]at h;rw[a8 l ec4];exact k34 h
       ·rwa [a8 l ec1]at h
       ·rw[dne c1 h1n (Ne.symm ec1)];rw[a8 l ec1]at h;rw[a8 l ec2]at h';exact B1 h h'
       ·rw[dne c2 h2n (Ne.symm ec2)];rw[a8 l ec2]at h;rw[a8 l ec3]at h';exact B2 h h'
       ·rw[dne c3 h3n (Ne.symm ec3)];rw[a8 l ec3]at h;rw[a8 l ec4]at h';exact B3 h h'
       ·rw[dne c4 h4n (Ne.symm ec4)];rw[a8 l ec4]at h;exact B4 h
theorem tA {P:Program} {id:Nat} {ops:Array Oper} {Q:Exit→Act→World→Prop} {a0:Act} {w:World} (hm:P.follows .mixedOrders=true) (D:Nat→Bool)
    (hg:∀o ∈ ops,o.guard=none) (hacyc:∀(k:Nat) (o:Oper),ops[k]? = some o→∀e ∈ o.after,Region.binds .any e=true→e.on<k) (n c1 c2 c3 c4 c5 c6:Nat) (hn:ops.size=n+1) (h1n:c1<n) (h2n:c2<n) (h3n:c3<n) (h4n:c4<n) (h5n:c5<n) (h6n:c6<n) (h12:c1≠c2) (h13:c1≠c3) (h14:c1≠c4) (h15:c1≠c5) (h16:c1≠c6) (h23:c2≠c3) (h24:c2≠c4) (h25:c2≠c5) (h26:c2≠c6) (h34:c3≠c4) (h35:c3≠c5) (h36:c3≠c6) (h45:c4≠c5) (h46:c4≠c6) (h56:c5≠c6) (dst:Nat→Nat) (hinj:∀k,k<n→∀j,j<n→dst j=dst k→j=k)
    (F:Nat→Value→Prop) (A0:World→Prop) (A1 A2 A3 A4 A5 A6:Value→World→Prop) (hA:A0 w.drew)
    (hall:∀o,ops[n]? = some o→∀j,j<n→∃e ∈ o.after,e.on=j∧Region.binds .any e=true)
    (he2:∀o,ops[c2]? = some o→∃e ∈ o.after,e.on=c1∧Region.binds .any e=true)
    (he3:∀o,ops[c3]? = some o→∃e ∈ o.after,e.on=c2∧Region.binds .any e=true)
    (he4:∀o,ops[c4]? = some o→∃e ∈ o.after,e.on=c3∧Region.binds .any e=true)
    (he5:∀o,ops[c5]? = some o→∃e ∈ o.after,e.on=c4∧Region.binds .any e=true)
    (he6:∀o,ops[c6]? = some o→∃e ∈ o.after,e.on=c5∧Region.binds .any e=true)
    (step:∀k o u W,k<n→k≠c1→k≠c2→k≠c3→k≠c4→k≠c5→k≠c6→ops[k]? = some o→(A0 W∨A1 (u (dst c1)) W∨A2 (u (dst c2)) W∨A3 (u (dst c3)) W∨A4 (u (dst c4)) W∨A5 (u (dst c5)) W∨A6 (u (dst c6)) W)→(∀j,j<n→(∃e ∈ o.after,e.on=j∧Region.binds .any e=true)→F j (u (dst j)))→o.wp P (ovr D a0 u) W (fun a' W'=>∃v,a'=ovr D a0 (upd u (dst k) v)∧W'=W∧F k v) Q)
    (call1:∀o u W,ops[c1]? = some o→A0 W→(∀j,j<n→(∃e ∈ o.after,e.on=j∧Region.binds .any e=true)→F j (u (dst j)))→o.wp P (ovr D a0 u) W (fun a' W'=>∃v,a'=ovr D a0 (upd u (dst c1) v)∧A1 v W'∧F c1 v) Q)
    (call2:∀o u W,ops[c2]? = some o→A1 (u (dst c1)) W→(∀j,j<n→(∃e ∈ o.after,e.on=j∧Region.binds .any e=true)→F j (u (dst j)))→o.wp P (ovr D a0 u) W (fun a' W'=>∃v,a'=ovr D a0 (upd u (dst c2) v)∧A2 v W'∧F c2 v) Q)
    (call3:∀o u W,ops[c3]? = some o→A2 (u (dst c2)) W→(∀j,j<n→(∃e ∈ o.after,e.on=j∧Region.binds .any e=true)→F j (u (dst j)))→o.wp P (ovr D a0 u) W (fun a' W'=>∃v,a'=ovr D a0 (upd u (dst c3) v)∧A3 v W'∧F c3 v) Q)
    (call4:∀o u W,ops[c4]? = some o→A3 (u (dst c3)) W→(∀j,j<n→(∃e ∈ o.after,e.on=j∧Region.binds .any e=true)→F j (u (dst j)))→o.wp P (ovr D a0 u) W (fun a' W'=>∃v,a'=ovr D a0 (upd u (dst c4) v)∧A4 v W'∧F c4 v) Q)
    (call5:∀o u W,ops[c5]? = some o→A4 (u (dst c4)) W→(∀j,j<n→(∃e ∈ o.after,e.on=j∧Region.binds .any e=true)→F j (u (dst j)))→o.wp P (ovr D a0 u) W (fun a' W'=>∃v,a'=ovr D a0 (upd u (dst c5) v)∧A5 v W'∧F c5 v) Q)
    (call6:∀o u W,ops[c6]? = some o→A5 (u (dst c5)) W→(∀j,j<n→(∃e ∈ o.after,e.on=j∧Region.binds .any e=true)→F j (u (dst j)))→o.wp P (ovr D a0 u) W (fun a' W'=>∃v,a'=ovr D a0 (upd u (dst c6) v)∧A6 v W'∧F c6 v) Q)
    (last:∀o u W,ops[n]? = some o→A6 (u (dst c6)) W→(∀j,j<n→F j (u (dst j)))→o.wp P (ovr D a0 u) W (fun a' W'=>∃u',a'=ovr D a0 u'∧Q .normal (ovr D a0 u') W') Q) :
    (Code.region id ops true).wp P Q a0 w:=by
 refine gd hm D hg hacyc (fun l u W=>(l.getD n false=false∧(l.getD c1 false=false→l.getD c2 false=false)∧(l.getD c2 false=false→l.getD c3 false=false)∧(l.getD c3 false=false→l.getD c4 false=false)∧(l.getD c4 false=false→l.getD c5 false=false)∧(l.getD c5 false=false→l.getD c6 false=false)∧(l.getD c1 false=false→A0 W)∧(l.getD c1 false=true→l.getD c2 false=false→A1 (u (dst c1)) W)∧(l.getD c2 false=true→l.getD c3 false=false→A2 (u (dst c2)) W)∧(l.getD c3 false=true→l.getD c4 false=false→A3 (u (dst c3)) W)∧(l.getD c4 false=true→l.getD c5 false=false→A4 (u (dst c4)) W)∧(l.getD c5 false=true→l.getD c6 false=false→A5 (u (dst c5)) W)∧(l.getD c6 false=true→A6 (u (dst c6)) W)∧∀k,k<n→l.getD k false=true→F k (u (dst k)))∨((∀k,k<n+1→l.getD k false=true)∧Q .normal (ovr D a0 u) W)) (.inl ⟨?_,fun _ => ?_,fun _ => ?_,fun _ => ?_,fun _ => ?_,fun _ => ?_,fun _=>hA,fun h => ?_,fun h => ?_,fun h => ?_,fun h => ?_,fun h => ?_,fun h => ?_,fun k hk h => ?_⟩) ?_ ?_
 ·simp[Array.getD,hn]
 ·simp[Array.getD,hn]
 ·simp[Array.getD,hn]
 ·simp[Array.getD,hn]
 ·simp[Array.getD,hn]
 ·simp[Array.getD,hn]
 ·simp[Array.getD,hn,show c1<n+1 by omega]at h
 ·simp[Array.getD,hn,show c2<n+1 by omega]at h
 ·simp[Array.getD,hn,show c3<n+1 by omega]at h
 ·simp[Array.getD,hn,show c4<n+1 by omega]at h
 ·simp[Array.getD,hn,show c5<n+1 by omega]at h
 ·simp[Array.getD,hn,show c6<n+1 by omega]at h
 ·simp[Array.getD,hn,show k<n+1 by omega]at h
 ·rintro l u W (⟨h1,_⟩|⟨_,h⟩) hA
  ·rw[hA n (by omega)]at h1;cases h1
  ·exact h
 ·rintro l u W k o (⟨h1,k12,k23,k34,k45,k56,B0,B1,B2,B3,B4,B5,B6,hF⟩|⟨hA,_⟩) hl hlk ho hd
  case inr=>
   have hk:k<n+1:=by rw[←hn];exact (Array.getElem?_eq_some_iff.1 ho).1
   rw[hA k hk]at hlk;cases hlk
  have hk:k<n+1:=by rw[←hn];exact (Array.getElem?_eq_some_iff.1 ho).1
  by_cases e:k=n
  ·subst e
   have hA:∀j,j<k→l.getD j false=true:=fun j hj=>by
    obtain⟨e,he,rfl,hb⟩:=hall o ho j hj;exact hd e he hb
   refine Oper.wp_mono ?_ (last o u W ho (B6 (hA c6 h6n)) (fun j hj=>hF j hj (hA j hj)));rintro a' W' ⟨u',rfl,h⟩;refine⟨u',rfl,.inr ⟨fun j hj => ?_,h⟩⟩
   by_cases e:j=k
   ·subst e;exact aN (by omega)
   ·rw[a8 l (Ne.symm e)];exact hA j (by omega)
  ·have hk':k<n:=by omega
   have hfd:∀j,j<n→(∃e ∈ o.after,e.on=j∧Region.binds .any e=true)→F j (u (dst j)):=fun j hj ⟨e,he,e1,hb⟩=>hF j hj (by rw[←e1];exact hd e he hb)
   have hput:∀ {v:Value},F k v→∀j,j<n→(l.set! k true).getD j false=true→F j ((upd u (dst k) v) (dst j)):=fun {v} hv=>iU (dst:=dst) (F:=fun k t _=>F k t) (w:=W) (w':=W) (hinj k hk') hF (fun j _ _ _ t z=>z) hv
   have dne:∀c,c<n→c≠k→∀v,(upd u (dst k) v) (dst c)=u (dst c):=fun c hc hck v=>yT (fun e=>hck (hinj k hk' c hc e))
   by_cases ec1:k=c1
   ·subst ec1;have l2:=k12 hlk;have l3:=k23 l2;have l4:=k34 l3;have l5:=k45 l4;have l6:=k56 l5;refine Oper.wp_mono ?_ (call1 o u W ho (B0 hlk) hfd);rintro a' W' ⟨v,rfl,hb,hv⟩;refine⟨_,rfl,.inl ⟨?_,fun h => ?_,fun _ => ?_,fun _ => ?_,fun _ => ?_,fun _ => ?_,fun h => ?_,fun _ _ => ?_,fun h => ?_,fun h => ?_,fun h => ?_,fun h => ?_,fun h => ?_,hput hv⟩⟩
    ·rw[a8 l e];exact h1
    ·rw[aN (by omega)]at h;cases h
    ·rw[a8 l h13];exact l3
    ·rw[a8 l h14];exact l4
    ·rw[a8 l h15];exact l5
    ·rw[a8 l h16];exact l6
    ·rw[aN (by omega)]at h;cases h
    ·rw[gZ];exact hb
    ·rw[a8 l h12,l2]at h;cases h
    ·rw[a8 l h13,l3]at h;cases h
    ·rw[a8 l h14,l4]at h;cases h
    ·rw[a8 l h15,l5]at h;cases h
    ·rw[a8 l h16,l6]at h;cases h
   ·skip
    by_cases ec2:k=c2
    ·subst ec2
     have l1:l.getD c1 false=true:=by
      obtain⟨e,he,e1,hb⟩:=he2 o ho;rw[←e1];exact hd e he hb
     have l3:=k23 hlk;have l4:=k34 l3;have l5:=k45 l4;have l6:=k56 l5;refine Oper.wp_mono ?_ (call2 o u W ho (B1 l1 hlk) hfd);rintro a' W' ⟨v,rfl,hb,hv⟩;refine⟨_,rfl,.inl ⟨?_,fun h => ?_,fun h => ?_,fun _ => ?_,fun _ => ?_,fun _ => ?_,fun h => ?_,fun _ h => ?_,fun _ _ => ?_,fun h => ?_,fun h => ?_,fun h => ?_,fun h => ?_,hput hv⟩⟩
     ·rw[a8 l e];exact h1
     ·rw[a8 l (Ne.symm h12),l1]at h;cases h
     ·rw[aN (by omega)]at h;cases h
     ·rw[a8 l h24];exact l4
     ·rw[a8 l h25];exact l5
     ·rw[a8 l h26];exact l6
     ·rw[a8 l (Ne.symm h12),l1]at h;cases h
     ·rw[aN (by omega)]at h;cases h
     ·rw[gZ];exact hb
     ·rw[a8 l h23,l3]at h;cases h
     ·rw[a8 l h24,l4]at h;cases h
     ·rw[a8 l h25,l5]at h;cases h
     ·rw[a8 l h26,l6]at h;cases h
    ·skip
     by_cases ec3:k=c3
     ·subst ec3
      have l2:l.getD c2 false=true:=by
       obtain⟨e,he,e1,hb⟩:=he3 o ho;rw[←e1];exact hd e he hb
      have l1:l.getD c1 false=true:=by
       cases hh:l.getD c1 false
       ·rw[k12 hh]at l2;cases l2
       ·rfl
      have l4:=k34 hlk;have l5:=k45 l4;have l6:=k56 l5;refine Oper.wp_mono ?_ (call3 o u W ho (B2 l2 hlk) hfd);rintro a' W' ⟨v,rfl,hb,hv⟩;refine⟨_,rfl,.inl ⟨?_,fun h => ?_,fun h => ?_,fun h => ?_,fun _ => ?_,fun _ => ?_,fun h => ?_,fun _ h => ?_,fun _ h => ?_,fun _ _ => ?_,fun h => ?_,fun h => ?_,fun h => ?_,hput hv⟩⟩
      ·rw[a8 l e];exact h1
      ·rw[a8 l (Ne.symm h13),l1]at h;cases h
      ·rw[a8 l (Ne.symm h23),l2]at h;cases h
      ·rw[aN (by omega)]at h;cases h
      ·rw[a8 l h35];exact l5
      ·rw[a8 l h36];exact l6
      ·rw[a8 l (Ne.symm h13),l1]at h;cases h
      ·rw[a8 l (Ne.symm h23),l2]at h;cases h
      ·rw[aN (by omega)]at h;cases h
      ·rw[gZ];exact hb
      ·rw[a8 l h34,l4]at h;cases h
      ·rw[a8 l h35,l5]at h;cases h
      ·rw[a8 l h36,l6]at h;cases h
     ·skip
      by_cases ec4:k=c4
      ·subst ec4
       have l3:l.getD c3 false=true:=by
        obtain⟨e,he,e1,hb⟩:=he4 o ho;rw[←e1];exact hd e he hb
       have l2:l.getD c2 false=true:=by
        cases hh:l.getD c2 false
        ·rw[k23 hh]at l3;cases l3
        ·rfl
       have l1:l.getD c1 false=true:=by
        cases hh:l.getD c1 false
        ·rw[k12 hh]at l2;cases l2
        ·rfl
       have l5:=k45 hlk;have l6:=k56 l5;refine Oper.wp_mono ?_ (call4 o u W ho (B3 l3 hlk) hfd);rintro a' W' ⟨v,rfl,hb,hv⟩;refine⟨_,rfl,.inl ⟨?_,fun h => ?_,fun h => ?_,fun h => ?_,fun h => ?_,fun _ => ?_,fun h => ?_,fun _ h => ?_,fun _ h => ?_,fun _ h => ?_,fun _ _ => ?_,fun h => ?_,fun h => ?_,hput hv⟩⟩
       ·rw[a8 l e];exact h1
       ·rw[a8 l (Ne.symm h14),l1]at h;cases h
       ·rw[a8 l (Ne.symm h24),l2]at h;cases h
       ·rw[a8 l (Ne.symm h34),l3]at h;cases h
       ·rw[aN (by omega)]at h;cases h
       ·rw[a8 l h46];exact l6
       ·rw[a8 l (Ne.symm h14),l1]at h;cases h
       ·rw[a8 l (Ne.symm h24),l2]at h;cases h
       ·rw[a8 l (Ne.symm h34),l3]at h;cases h
       ·rw[aN (by omega)]at h;cases h
       ·rw[gZ];exact hb
       ·rw[a8 l h45,l5]at h;cases h
       ·rw[a8 l h46,l6]at h;cases h
      ·skip
       by_cases ec5:k=c5
       ·subst ec5
        have l4:l.getD c4 false=true:=by
         obtain⟨e,he,e1,hb⟩:=he5 o ho;rw[←e1];exact hd e he hb
        have l3:l.getD c3 false=true:=by
         cases hh:l.getD c3 false
         ·rw[k34 hh]at l4;cases l4
         ·rfl
        have l2:l.getD c2 false=true:=by
         cases hh:l.getD c2 false
         ·rw[k23 hh]at l3;cases l3
         ·rfl
        have l1:l.getD c1 false=true:=by
         cases hh:l.getD c1 false
         ·rw[k12 hh]at l2;cases l2
         ·rfl
        have l6:=k56 hlk;refine Oper.wp_mono ?_ (call5 o u W ho (B4 l4 hlk) hfd);rintro a' W' ⟨v,rfl,hb,hv⟩;refine⟨_,rfl,.inl ⟨?_,fun h => ?_,fun h => ?_,fun h => ?_,fun h => ?_,fun h => ?_,fun h => ?_,fun _ h => ?_,fun _ h => ?_,fun _ h => ?_,fun _ h => ?_,fun _ _ => ?_,fun h => ?_,hput hv⟩⟩
        ·rw[a8 l e];exact h1
        ·rw[a8 l (Ne.symm h15),l1]at h;cases h
        ·rw[a8 l (Ne.symm h25),l2]at h;cases h
        ·rw[a8 l (Ne.symm h35),l3]at h;cases h
        ·rw[a8 l (Ne.symm h45),l4]at h;cases h
        ·rw[aN (by omega)]at h;cases h
        ·rw[a8 l (Ne.symm h15),l1]at h;cases h
        ·rw[a8 l (Ne.symm h25),l2]at h;cases h
        ·rw[a8 l (Ne.symm h35),l3]at h;cases h
        ·rw[a8 l (Ne.symm h45),l4]at h;cases h
        ·rw[aN (by omega)]at h;cases h
        ·rw[gZ];exact hb
        ·rw[a8 l h56,l6]at h;cases h
       ·skip
        by_cases ec6:k=c6
        ·subst ec6
         have l5:l.getD c5 false=true:=by
          obtain⟨e,he,e1,hb⟩:=he6 o ho;rw[←e1];exact hd e he hb
         have l4:l.getD c4 false=true:=by
          cases hh:l.getD c4 false
          ·rw[k45 hh]at l5;cases l5
          ·rfl
         have l3:l.getD c3 false=true:=by
          cases hh:l.getD c3 false
          ·rw[k34 hh]at l4;cases l4
          ·rfl
         have l2:l.getD c2 false=true:=by
          cases hh:l.getD c2 false
          ·rw[k23 hh]at l3;cases l3
          ·rfl
         have l1:l.getD c1 false=true:=by
          cases hh:l.getD c1 false
          ·rw[k12 hh]at l2;cases l2
          ·rfl
         refine Oper.wp_mono ?_ (call6 o u W ho (B5 l5 hlk) hfd);rintro a' W' ⟨v,rfl,hb,hv⟩;refine⟨_,rfl,.inl ⟨?_,fun h => ?_,fun h => ?_,fun h => ?_,fun h => ?_,fun h => ?_,fun h => ?_,fun _ h => ?_,fun _ h => ?_,fun _ h => ?_,fun _ h => ?_,fun _ h => ?_,fun _ => ?_,hput hv⟩⟩
         ·rw[a8 l e];exact h1
         ·rw[a8 l (Ne.symm h16),l1]at h;cases h
         ·rw[a8 l (Ne.symm h26),l2]at h;cases h
         ·rw[a8 l (Ne.symm h36),l3]at h;cases h
         ·rw[a8 l (Ne.symm h46),l4]at h;cases h
         ·rw[a8 l (Ne.symm h56),l5]at h;cases h
         ·rw[a8 l (Ne.symm h16),l1]at h;cases h
         ·rw[a8 l (Ne.symm h26),l2]at h;cases h
         ·rw[a8 l (Ne.symm h36),l3]at h;cases h
         ·rw[a8 l (Ne.symm h46),l4]at h;cases h
         ·rw[a8 l (Ne.symm h56),l5]at h;cases h
         ·rw[aN (by omega)]at h;cases h
         ·rw[gZ];exact hb
        ·skip
         have hAB:A0 W∨A1 (u (dst c1)) W∨A2 (u (dst c2)) W∨A3 (u (dst c3)) W∨A4 (u (dst c4)) W∨A5 (u (dst c5)) W∨A6 (u (dst c6)) W:=by
          cases hh1:l.getD c1 false
          ·exact .inl (B0 hh1)
          ·skip
           cases hh2:l.getD c2 false
           ·exact .inr (.inl (B1 hh1 hh2))
           ·skip
            cases hh3:l.getD c3 false
            ·exact .inr (.inr (.inl (B2 hh2 hh3)))
            ·skip
             cases hh4:l.getD c4 false
             ·exact .inr (.inr (.inr (.inl (B3 hh3 hh4))))
             ·skip
              cases hh5:l.getD c5 false
              ·exact .inr (.inr (.inr (.inr (.inl (B4 hh4 hh5)))))
              ·skip
               cases hh6:l.getD c6 false
               ·exact .inr (.inr (.inr (.inr (.inr (.inl (B5 hh5 hh6))))))
               ·exact .inr (.inr (.inr (.inr (.inr (.inr (B6 hh6))))))
         refine Oper.wp_mono ?_ (step k o u W hk' ec1 ec2 ec3 ec4 ec5 ec6 ho hAB hfd);rintro a' W' ⟨v,rfl,rfl,hv⟩;refine⟨_,rfl,.inl ⟨?_,fun h => ?_,fun h => ?_,fun h => ?_,fun h => ?_,fun h => ?_,fun h=>B0 ?_,fun h h' => ?_,fun h h' => ?_,fun h h' => ?_,fun h h' => ?_,fun h h' => ?_,fun h => ?_,hput hv⟩⟩
         ·rw[a8 l e];exact h1
         ·rw[a8 l ec1]at h;rw[a8 l ec2];exact k12 h
         ·rw[a8 l ec2]at h;rw[a8 l ec3];exact k23 h
         ·rw[a8 l ec3]at h;rw[a8 l ec4];exact k34 h
         ·rw[a8 l ec4]at h;rw[a8 l ec5];exact k45 h
         ·rw[a8 l ec5]at h;rw[a8 l ec6];exact k56 h
         ·rwa [a8 l ec1]at h
         ·rw[dne c1 h1n (Ne.symm ec1)];rw[a8 l ec1]at h;rw[a8 l ec2]at h';exact B1 h h'
         ·rw[dne c2 h2n (Ne.symm ec2)];rw[a8 l ec2]at h;rw[a8 l ec3]at h';exact B2 h h'
         ·rw[dne c3 h3n (Ne.symm ec3)];rw[a8 l ec3]at h;rw[a8 l ec4]at h';exact B3 h h'
         ·rw[dne c4 h4n (Ne.symm ec4)];rw[a8 l ec4]at h;rw[a8 l ec5]at h';exact B4 h h'
         ·rw[dne c5 h5n (Ne.symm ec5)];rw[a8 l ec5]at h;rw[a8 l ec6]at h';exact B5 h h'
         ·rw[dne c6 h6n (Ne.symm ec6)];rw[a8 l ec6]at h;exact B6 h
end Go.Proofs.YtocidankimefpaaGreatDoor.region
namespace Go.Proofs.YtocidankimefpaaGreatDoor.region
open Go Go.RowKit
section
variable {P:Program} {ops:Array Oper} {o:Oper} {D:Nat→Bool} {a0:Act} {u:Nat→Value} {W:World} {Q:Exit→Act→World→Prop} {R:World→World→Prop} {F:Value→World→Prop} {dk:Nat}
end
end Go.Proofs.YtocidankimefpaaGreatDoor.region
