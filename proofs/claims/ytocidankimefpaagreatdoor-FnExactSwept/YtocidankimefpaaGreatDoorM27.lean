/-
  Chapter 9 as the program has it: Objects. Chapter 15 as lists: the numbers of what is swept, and each step of it. Chapter 12 as the specification has it: a slot there is, and what stands in it, followed. Chapter 12 as the program has it: the object at a place, the one with such a slot; Fetched. Chap
-/
import Derived.Test.YtocidankimefpaaGreatDoorM25
import Derived.Test.YtocidankimefpaaGreatDoorM21
import Derived.Test.YtocidankimefpaaGreatDoorM22
import Derived.Test.YtocidankimefpaaGreatDoorM13
import Derived.Test.YtocidankimefpaaGreatDoorM2
import Derived.Test.YtocidankimefpaaGreatDoorM10
import Derived.Test.YtocidankimefpaaGreatDoorM18
import Derived.Deep.RegionLaw
namespace Go.Proofs.YtocidankimefpaaGreatDoor.hp
open Go.RowKit rows heads words walks
set_option maxRecDepth 100000
set_option linter.unusedVariables false
set_option linter.unusedSimpArgs false
def plL (ds:List Pd):List Int:=ds.map (·.pl)
theorem pl_keep (a:Option Addr) (H:Hp):∀u:List Int,(∀p ∈ u,∃j:Nat,p=j)→plL (keepP (pdsOf a H.row u))=u.filter (isO H)
 | [],_=>rfl
 |p :: u,h=>by
  have ih:=pl_keep a H u (fun q hq=>h q (List.mem_cons_of_mem _ hq))
  obtain⟨j,rfl⟩:=h p (List.mem_cons_self ..)
  have e0:pdsOf a H.row ((j:Int) :: u)=pdOf a H.row j :: pdsOf a H.row u:=by unfold pdsOf;simp
  rw[e0]
  unfold keepP plL at ih ⊢
  cases e:isO H (j:Int)
  ·have e1:(!freeP (pdOf a H.row j))=false:=by rw[←e];show _ = !(uF (H.row.getD (j:Int).toNat 0)==6);rw[Int.toNat_natCast];rfl
   rw[List.filter_cons_of_neg (p:=fun d => !freeP d) (by rw[e1];decide),List.filter_cons_of_neg (by rw[e];decide)];exact ih
  ·have e1:(!freeP (pdOf a H.row j))=true:=by rw[←e];show _ = !(uF (H.row.getD (j:Int).toNat 0)==6);rw[Int.toNat_natCast];rfl
   rw[List.filter_cons_of_pos (p:=fun d => !freeP d) e1,List.filter_cons_of_pos e,List.map_cons,ih,pdOf_pl]
theorem pl_all (a:Option Addr) (H:Hp):∀u:List Int,(∀p ∈ u,∃j:Nat,p=j)→plL (pdsOf a H.row u)=u
 | [],_=>rfl
 |p :: u,h=>by
  have ih:=pl_all a H u (fun q hq=>h q (List.mem_cons_of_mem _ hq))
  obtain⟨j,rfl⟩:=h p (List.mem_cons_self ..)
  unfold plL pdsOf at ih ⊢
  rw[List.map_cons,List.map_cons,ih,pdOf_pl,Int.toNat_natCast]
theorem objs_places {a:Option Addr} {H:Hp} (h:heapOk H=true):plL (objsP a H)=objL H ((placesR H).getD []):=by
 have hr:rightB H=true:=by unfold heapOk at h;rw[Bool.and_eq_true]at h;exact h.1
 obtain⟨ps,hps⟩:=right_some hr
 rw[←openB_is a H]at hr
 obtain⟨hn,hro,_⟩:=openB_parts hr
 obtain⟨r,u,e1,e2,e3,e4⟩:=room_some hn hro
 have hb:placesB H=some ps:=by
  have:=hps
  unfold placesR at this
  split at this
  ·cases this
  ·exact this
 rw[e3]at hb
 cases hb
 have hp:=(places_plc hps).1
 have hpn:∀p ∈ r++u,∃j:Nat,p=j:=fun p hp'=>by obtain⟨j,e,_⟩:=hp p hp';exact⟨j,e⟩
 rw[hps,Option.getD_some,e4]
 unfold objL
 rw[List.filter_append]
 have q1:plL (pdsOf a H.row r++keepP (pdsOf a H.row u))=plL (pdsOf a H.row r)++plL (keepP (pdsOf a H.row u)):=by unfold plL;rw[List.map_append]
 rw[q1,pl_all a H r (fun p hp'=>hpn p (List.mem_append.2 (.inl hp'))),pl_keep a H u (fun p hp'=>hpn p (List.mem_append.2 (.inr hp')))]
 congr 1
 symm
 rw[List.filter_eq_self]
 intro p hp'
 obtain⟨_,_,r',u',hr',_,hall,_⟩:=places_facts hps
 rw[e1]at hr'
 cases hr'
 rw[List.all_eq_true]at hall
 have:=hall p hp'
 unfold roomOk at this
 rw[Bool.and_eq_true]at this
 exact this.1
theorem blank_i64:∀s:Fin 21,I64 (pk (s.val:Int) 0 0 0 false false):=by
 have h:∀s:Fin 21,-9223372036854775808≤pk (s.val:Int) 0 0 0 false false∧pk (s.val:Int) 0 0 0 false false≤9223372036854775807:=by decide
 exact h
theorem allI_put {xs ys:List Int} (h:AllI xs) {k j n:Nat} {hd:Int} (hh:I64 hd) (hy:AllI ys):AllI (put xs k hd ys j n):=by
 intro x hx
 unfold put at hx
 simp only[List.mem_append,List.mem_cons,List.mem_replicate]at hx
 rcases hx with (hx|(hx|(hx|hx)))|hx
 ·exact h x (List.mem_of_mem_take hx)
 ·rw[hx];exact hh
 ·exact hy x (List.mem_of_mem_take hx)
 ·rw[hx.2];exact⟨by decide,by decide⟩
 ·exact h x (List.mem_of_mem_drop hx)
theorem allI_free {xs:List Int} (h:AllI xs) {k n:Nat} (hn:n≤100000):AllI (freeR xs k n):=by
 unfold freeR
 refine allI_put h (by rw[pk6];exact⟨by decide,by decide⟩) (fun x hx => ?_)
 have e:x=(n:Int):=by simpa using hx
 rw[e]
 exact⟨by omega,by omega⟩
theorem allI_runs {xs:List Int} (hx:AllI xs) {t:Nat} (ht:t≤100000):∀(ps:List Nat) (k:Nat) (cur:Option (Nat×Nat)) (acc:List Int),Chain xs t k ps→AllI acc→(∀a n,cur=some (a,n)→a+n≤k)→AllI (runs xs ps cur acc):=by
 intro ps
 have fin:∀(acc:List Int) (a n:Nat),AllI acc→n≤100000→AllI (finR xs acc a n):=fun acc a n h1 h2=>by
  unfold finR
  split
  ·exact h1
  ·exact allI_free h1 h2
 induction ps with
 |nil=>
  intro k cur acc hc hl hcur
  cases cur with
  |none=>exact hl
  |some c=>
   obtain⟨a,n⟩:=c
   have:=hcur a n rfl
   have hk:k=t:=hc
   exact fin acc a n hl (by omega)
 |cons p ps ih=>
  intro k cur acc hc hl hcur
  obtain⟨rfl,h2,h3,h4,h5⟩:=hc
  have hb:=chunk_bounds xs k
  cases cur with
  |none=>
   simp only[runs]
   split
   ·exact ih _ _ _ h5 hl (fun a n e=>by cases e;omega)
   ·exact ih _ _ _ h5 hl (fun a n e=>by cases e)
  |some c=>
   obtain⟨a,n⟩:=c
   have hh:=hcur a n rfl
   simp only[runs]
   split
   ·split
    ·exact ih _ _ _ h5 hl (fun a' n' e=>by cases e;omega)
    ·exact ih _ _ _ h5 (fin acc a n hl (by omega)) (fun a' n' e=>by cases e;omega)
   ·exact ih _ _ _ h5 hl (fun a' n' e=>by cases e;omega)
theorem swp_step {H:Hp} {ps L:List Int} (R:Rt H ps):∀i,i<(objL H ps).length→∃j s n:Nat,(objL H ps).getD i 0=(j:Int)∧uS (H.row.getD j 0)=(s:Int)∧s≤20∧sz (s:Int)=(n:Int)∧chunk H.row j=(n:Int)∧2≤n∧s<n∧j+n≤H.row.length∧(swpRow H L ((objL H ps).take i)).length=H.row.length∧(swpRow H L ((objL H ps).take (i+1))).length=H.row.length∧((j:Int) ∈ L→swpRow H L ((objL H ps).take (i+1))=swpRow H L ((objL H ps).take i))∧((j:Int) ∉ L→swpRow H L ((objL H ps).take (i+1))=if (j:Int)<2*H.half then put (swpRow H L ((objL H ps).take i)) j (pk (s:Int) 0 0 0 false false) (List.replicate s 2) s n else freeR (swpRow H L ((objL H ps).take i)) j n):=fun i hi=>by
 have hA:=apart_of R.some'
 have hris:Rising (objL H ps):=(places_rising R.some').filter _
 have hm:(objL H ps).getD i 0 ∈ objL H ps:=by rw[List.getD_eq_getElem?_getD,List.getElem?_eq_getElem hi];exact List.getElem_mem hi
 obtain⟨hpp,h6⟩:=objL_mem hm
 obtain⟨j,ej,hc,hjl⟩:=hA.nat _ hpp
 rw[ej,Int.toNat_natCast]at h6
 obtain⟨e,u0,u1,u2⟩:=chunk_sz hc h6
 have hz:=sz_at u0 u1
 have I:=swI (L:=L) hA (fun p hp=>hp) hris i (by omega)
 have I':=swI (L:=L) hA (fun p hp=>hp) hris (i+1) (by omega)
 have hnx:=swp_next (H:=H) (L:=L) hi
 rw[ej]at hnx
 unfold swpS at hnx
 refine⟨j,(uS (H.row.getD j 0)).toNat,(sz (uS (H.row.getD j 0))).toNat,ej,by omega,by omega,by rw[Int.toNat_of_nonneg u0];omega,by omega,by omega,by omega,u2,I.len,I'.len,fun hin=>by rw[hnx,if_pos hin],fun hin => ?_⟩
 rw[hnx,if_neg hin]
 unfold dropR blankR
 by_cases hh:(j:Int)<2*H.half
 ·rw[if_pos hh,if_pos hh,Int.toNat_natCast,Int.toNat_of_nonneg u0]
 ·rw[if_neg hh,if_neg hh,Int.toNat_natCast,e]
theorem allI_swp {H:Hp} {ps L:List Int} (R:Rt H ps) (hr:AllI H.row):∀i,i≤(objL H ps).length→AllI (swpRow H L ((objL H ps).take i)):=by
 intro i
 induction i with
 |zero=>intro _;exact hr
 |succ i ih=>
  intro hi
  have I:=ih (by omega)
  obtain⟨j,s,n,_,_,h20,_,_,_,_,hjn,_,_,h1,h2⟩:=swp_step (L:=L) R i (by omega)
  have hl:=R.len
  by_cases hin:(j:Int) ∈ L
  ·rw[h1 hin];exact I
  ·rw[h2 hin]
   split
   ·exact allI_put I (blank_i64 ⟨s,by omega⟩) (fun x hx=>by rw[List.eq_of_mem_replicate hx];exact⟨by decide,by decide⟩)
   ·exact allI_free I (by omega)
theorem allI_swpC {H:Hp} {ps L:List Int} (R:Rt H ps) (hr:AllI H.row):AllI (swpC H ps L).row:=by
 have hris:Rising (objL H ps):=(places_rising R.some').filter _
 obtain⟨rr,uu,ll,F,T,_,hF,hT,hTl,hsl,HC,erow,_⟩:=swp_places (L:=L) R.some' hris
 have A:=allI_swp (L:=L) R hr (objL H ps).length (Nat.le_refl _)
 rw[List.take_length]at A
 rw[erow]
 have hl:=R.len
 exact allI_runs A (t:=T) (by omega) _ F none _ HC A (fun a n e=>by cases e)
theorem flatMap_le {l:List Int} {f:Int→List Int} (h:∀p ∈ l,(f p).length≤20):(l.flatMap f).length≤20*l.length:=by
 induction l with
 |nil=>simp
 |cons p l ih=>
  rw[List.flatMap_cons,List.length_append,List.length_cons]
  have h1:=h p (by simp)
  have h2:=ih (fun q hq=>h q (by simp[hq]))
  omega
theorem strW_len {H:Hp} {ps:List Int} (R:Rt H ps):(strW H ps).length≤100000:=by
 have N:=(places_facts R.some').1
 have h6:=N.roots
 have h40:=N.mourned
 have hp:=(places_plc R.some').2
 have ho:(objL H ps).length≤ps.length:=objL_len _ _
 have hf:((objL H ps).filter (fun p => !(ntH H p))).length≤(objL H ps).length:=List.length_filter_le _ _
 have h2:=flatMap_le (l:=(objL H ps).filter (fun p => !(ntH H p))) (f:=slotsOf H) (fun p _=>by
  unfold slotsOf
  rw[List.length_take]
  have:=uS_bounds (H.row.getD p.toNat 0)
  have:(cnS (H.row.getD p.toNat 0)).toNat≤20:=by
   unfold cnS
   split
   ·decide
   ·split
    ·decide
    ·omega
  omega)
 unfold strW
 rw[List.length_append,List.length_append]
 omega
end Go.Proofs.YtocidankimefpaaGreatDoor.hp
namespace Go.Proofs.YtocidankimefpaaGreatDoor.hp
open Go.RowKit rows heads words walks region
set_option maxRecDepth 100000
set_option linter.unusedVariables false
set_option linter.unusedSimpArgs false
def slotB (H:Hp) (ps:List Int) (p k:Int):Bool:=decide (p ∈ objL H ps)&&(!(uF (H.row.getD p.toNat 0)==7)&&(decide (0≤k)&&decide (k<uS (H.row.getD p.toNat 0))))
def slotW (H:Hp) (p k:Int):Int:=H.row.getD (p.toNat+1+k.toNat) 0
theorem slot_in {H:Hp} {ps:List Int} (R:Rt H ps) {p k:Int} (h:slotB H ps p k=true):∃j m:Nat,p=j∧k=m∧j+1+m<H.row.length∧slotW H p k=H.row.getD (j+1+m) 0∧wordIn H ps (H.row.getD (j+1+m) 0)=true∧p ∈ ps∧uF (H.row.getD j 0)≠6∧uF (H.row.getD j 0)≠7∧(m:Int)<uS (H.row.getD j 0):=by
 unfold slotB at h
 simp only[Bool.and_eq_true,decide_eq_true_eq,Bool.not_eq_true',beq_eq_false_iff_ne]at h
 obtain⟨h1,h2,h3,h4⟩:=h
 obtain⟨hp,h6⟩:=objL_mem h1
 obtain⟨j,rfl,hjl,hc⟩:=R.plc p hp
 rw[Int.toNat_natCast]at h2 h4 h6
 obtain⟨m,rfl⟩:∃m:Nat,k=m:=⟨k.toNat,by omega⟩
 have hcn:cnS (H.row.getD j 0)=uS (H.row.getD j 0):=by unfold cnS;rw[if_neg h2,if_neg h6]
 obtain⟨_,q2⟩:=chunk_slots hc
 rw[hcn]at q2
 have hl:j+1+m<H.row.length:=by omega
 refine⟨j,m,rfl,rfl,hl,by unfold slotW;rw[Int.toNat_natCast,Int.toNat_natCast],?_,hp,h6,h2,h4⟩
 have hs:=R.slots
 unfold slotsOk at hs
 rw[List.all_eq_true]at hs
 have h1:=hs _ hp
 rw[List.all_eq_true]at h1
 refine h1 _ ?_
 unfold slotsOf
 rw[Int.toNat_natCast,hcn,List.mem_iff_getElem?]
 refine⟨m,?_⟩
 rw[List.getElem?_take,if_pos (by omega),List.getElem?_drop,List.getElem?_eq_getElem hl,List.getD_eq_getElem?_getD,List.getElem?_eq_getElem hl];rfl
theorem slots_at {w:World} {b off:Nat} {xs:List Int} {j:Nat} (hl:xs.length≤1000) (hc:chunk xs j≠0) (h6:uF (xs.getD j 0)≠6) :
    Calls Tryz.prog 71 #[cv (uS (xs.getD j 0)) (uF (xs.getD j 0)) (uC (xs.getD j 0)) (uH (xs.getD j 0)) (uP (xs.getD j 0)) (uM (xs.getD j 0)) (.slice (some ⟨b,off+j,none⟩) (chunk xs j).toNat (chunk xs j).toNat)] w fun e w'=>e = .returned (piece (some ⟨b,off+j,none⟩) 1 (cnP (pdOf (some ⟨b,off,none⟩) xs j)))∧Below w.heap.size w w':=by
 have q:=chunk_fits hc h6
 have hn:(if uF (xs.getD j 0)=7 then 1 else uS (xs.getD j 0))=((cnP (pdOf (some ⟨b,off,none⟩) xs j):Nat):Int):=by
  rw[cnP_of]
  by_cases h7:uF (xs.getD j 0)=7
  ·rw[if_pos h7];first|rw[if_pos h7];rfl|omega
  ·rw[if_neg h7];first|(rw[if_neg h7];omega)|omega
 have hle:1+cnP (pdOf (some ⟨b,off,none⟩) xs j)≤(chunk xs j).toNat:=by
  rw[cnP_of]
  by_cases h7:uF (xs.getD j 0)=7
  ·rw[if_pos h7];first|rw[if_pos h7];rfl|omega
  ·rw[if_neg h7];first|(rw[if_neg h7];omega)|omega
 exact slots_any _ _ _ _ _ _ b (off+j) (chunk xs j).toNat (cnP (pdOf (some ⟨b,off,none⟩) xs j)) w (by omega) hn hle
end Go.Proofs.YtocidankimefpaaGreatDoor.hp
namespace Go.Proofs.YtocidankimefpaaGreatDoor.hp
open Go.RowKit rows heads words walks
set_option maxRecDepth 100000
set_option linter.unusedVariables false
set_option linter.unusedSimpArgs false
set_option maxHeartbeats 16000000 in
theorem leaveBlank_any {w:World} {g len cap j s n:Nat} {f c h:Int} {p m:Bool} {sb so:Nat} {xs:List Int} (F:Full w g xs) (hx:xs.length=len) (hl:len≤1000) (hs:s≤20) (hz:sz (s:Int)=(n:Int)) (hkn:j+n≤len) (hc:len≤cap) :
    Calls Tryz.prog 77 #[pdv ⟨(s:Int),f,c,h,p,m,.slice (some ⟨sb,so,none⟩) n n,(j:Int)⟩,.slice (some ⟨g,0,none⟩) len cap] w fun e w'=>e = .returned (.tuple #[])∧Full w' g (put xs j (pk (s:Int) 0 0 0 false false) (List.replicate s 2) s n)∧w.grownBy w' (some g):=by
 subst hx
 have hzz:=sz_at (s:=(s:Int)) (by omega) (by omega)
 have hn2:2≤n∧s<n:=by omega
 have hg:=lt_of_block F
 have F0:Full (w.alloc (pdb ⟨(s:Int),f,c,h,p,m,.slice (some ⟨sb,so,none⟩) n n,(j:Int)⟩)) g xs:=(Below.heap_alloc w _ g hg).trans F
 have G0:w.grownBy (w.alloc (pdb ⟨(s:Int),f,c,h,p,m,.slice (some ⟨sb,so,none⟩) n n,(j:Int)⟩)) (some g):=World.grownBy_alloc w _ _
 have B0:(w.alloc (pdb ⟨(s:Int),f,c,h,p,m,.slice (some ⟨sb,so,none⟩) n n,(j:Int)⟩)).heap[w.heap.size]? = some (pdb ⟨(s:Int),f,c,h,p,m,.slice (some ⟨sb,so,none⟩) n n,(j:Int)⟩):=heap_alloc_new _ _
 have ne:w.heap.size≠g:=by omega
 have HALL:Hid (∃X,X=w.alloc (pdb ⟨(s:Int),f,c,h,p,m,.slice (some ⟨sb,so,none⟩) n n,(j:Int)⟩)∧Full X g xs∧w.grownBy X (some g)∧X.heap[w.heap.size]? = some (pdb ⟨(s:Int),f,c,h,p,m,.slice (some ⟨sb,so,none⟩) n n,(j:Int)⟩)):=⟨_,rfl,F0,G0,B0⟩
 have HSZ:Hid (∀V,Calls Tryz.prog 78 #[cv (s:Int) f c h p m (.slice (some ⟨sb,so,none⟩) n n)] V fun e w'=>e = .returned (.int .i64 (n:Int))∧Below V.heap.size V w'):=fun V=>(size_any (s:Int) f c h p m (some ⟨sb,so,none⟩) n n V).mono (fun e w' ⟨he,hw⟩=>⟨he,by rw[hw];exact (Below.refl _ _).alloc (Nat.le_refl _) _⟩)
 have HOK:Hid (hok (s:Int) 0 0 0 false false=true):=by
  show _=_
  unfold hok
  rw[if_neg (by decide)]
  simp[inR]
  omega
 have HPK:Hid (∀V,Calls Tryz.prog 24 #[hv (s:Int) 0 0 0 false false] V fun e w'=>e = .returned (.int .i64 (pk (s:Int) 0 0 0 false false))∧Below V.heap.size V w'):=fun V=>(packed_any (s:Int) 0 0 0 false false V).mono (fun e w' ⟨he,hw⟩=>⟨by rw[he];unfold pkd;rw[if_pos HOK.out],by rw[hw];exact ((Below.refl _ _).alloc (Nat.le_refl _) _).alloc (by simp) _⟩)
 have HFR:Hid ((fill xs j n 0).set j (pk (s:Int) 0 0 0 false false)=put xs j (pk (s:Int) 0 0 0 false false) (List.replicate s 2) 0 n):=put_zero hkn (by omega)
 have HPS:Hid (∀q,q<s→(put xs j (pk (s:Int) 0 0 0 false false) (List.replicate s 2) q n).set (j+1+q) 2=put xs j (pk (s:Int) 0 0 0 false false) (List.replicate s 2) (q+1) n):=fun q hq=>by
  have:=put_set (xs:=xs) (ys:=List.replicate s 2) (k:=j) (j:=q) (n:=n) (hd:=pk (s:Int) 0 0 0 false false) hkn (by simpa using hq) (by simp;omega)
  rw[show (List.replicate s (2:Int)).getD q 0=2 by simp[List.getD_eq_getElem?_getD,List.getElem?_replicate,hq]]at this
  exact this
 have hfl:(fill xs j n 0).length=xs.length:=fill_length hkn
 have hpl:∀q,q≤s→(put xs j (pk (s:Int) 0 0 0 false false) (List.replicate s 2) q n).length=xs.length:=fun q hq=>put_length hkn (by simpa using hq) (by omega)
 have HPLN:Hid _:=hpl
 have q1:(0:Int)≤(j:Int)+n:=by omega
 have q2:(j:Int)+n≤cap:=by omega
 have q3:((j:Int)+(n:Int)).toNat=j+n:=by omega
 have q4:¬cap=j:=by omega
 have iw:IntKind.i64.wrap ((j:Int)+(n:Int))=(j:Int)+(n:Int):=by rw[IntKind.wrap_i64];omega
 have q5:(j:Int)≤(j:Int)+(n:Int):=by omega
 have hjl:j<xs.length:=by omega
 have hnpos:0<n:=by omega
 clear F F0 G0 B0 hzz hz HOK hpl
 generalize pk (s:Int) 0 0 0 false false=hd at *
 go_enter Tryz.func77,Tryz.ntmps77
 go_upto_region 1 with fail
 obtain⟨X,hX,FX,GX,QX⟩:=HALL.out
 rw[←hX]
 clear hX HALL
 have HFX:Hid _:=FX
 have HGX:Hid _:=GX
 have HQX:Hid _:=QX
 have hwX:w.heap.size<X.heap.size:=lt_of_block QX
 obtain⟨⟨p0,p1,p2,p3,p4,p5,p6,p7⟩,_⟩:=pdb_cells QX
 simp only at p0 p1 p2 p3 p4 p5 p6 p7
 clear FX GX QX
 go_cut [2] from 5 to 14 (fun q wy=>q = .pointer (some ⟨w.heap.size,0,none⟩)∧Full wy g (fill xs j n 0)∧X.grownBy wy (some g))
 case first=>
  go_region_law (first
   |(go_simp;go_at_call 78;refine (HSZ.out _).mono ?_;clear HSZ;rintro e w4 ⟨rfl,b4⟩;have B4:Below X.heap.size X w4:=⟨b4.os,b4.tape,b4.output,b4.size,b4.block⟩;have HF4:Hid _:=full_bel HFX.out B4;have HG4:Hid _:=grown_bel' B4 (some g);obtain⟨⟨p0,p1,p2,p3,p4,p5,p6,p7⟩,_⟩:=pdb_cells ((B4.block _ hwX).trans HQX.out);simp only at p0 p1 p2 p3 p4 p5 p6 p7;clear b4 B4)
   |(refine step_clear_ints rfl (.tmp 14) rfl (g:=g) (k:=j) (n:=n) (c:=cap-j) (xs:=xs) (by first|rfl|(simp[go_sem];done)) (by omega) HF4.out hkn ?_;intro w5 f5 g5;have HG5:Hid _:=grown_two HG4.out g5.out;have HF5:Hid _:=f5.out;clear f5 g5))
  all_goals (go_wp2_with fail)
  all_goals go_meet
  all_goals exact⟨rfl,HF5.out,HG5.out⟩
 obtain⟨rfl,FC,GC⟩:=hcut
 have HFC:Hid _:=FC
 have HGC:Hid _:=GC
 have HQC:Hid _:=(GC.block _ hwX (fun e=>ne (by injection e))).trans HQX.out
 have hwC:w.heap.size<wc.heap.size:=lt_of_block HQC.out
 clear p0 p1 p2 p3 p4 p5 p6 p7 FC GC HFX HQX HSZ
 obtain⟨⟨p0,p1,p2,p3,p4,p5,p6,p7⟩,_⟩:=pdb_cells HQC.out
 simp only at p0 p1 p2 p3 p4 p5 p6 p7
 obtain⟨X1,hX1⟩:∃X1,X1=wc:=⟨_,rfl⟩
 subst hX1
 go_upto_region 2 with fail
 go_cut [2] from 15 to 24 (fun q wy=>q = .pointer (some ⟨w.heap.size,0,none⟩)∧Full wy g (put xs j hd (List.replicate s 2) 0 n)∧X1.grownBy wy (some g))
 case first=>
  go_region_law (first
   |(go_simp;go_at_call 24;refine (HPK.out _).mono ?_;clear HPK;rintro e w4 ⟨rfl,b4⟩;have B4:Below X1.heap.size X1 w4:=⟨b4.os,b4.tape,b4.output,b4.size,b4.block⟩;have F4:=full_bel HFC.out B4;have c0:=full_cell F4 (show j<(fill xs j n 0).length by omega);have c1:=full_frozen F4 j;have HF5:Hid (Full (w4.setCell ⟨g,j,none⟩ (.int .i64 hd)) g (put xs j hd (List.replicate s 2) 0 n)):=(by rw[←HFR.out];exact full_set F4 j hd);have HG5:Hid (X1.grownBy (w4.setCell ⟨g,j,none⟩ (.int .i64 hd)) (some g)):=grown_setG (grown_bel' B4 (some g)) j _;obtain⟨⟨p0,p1,p2,p3,p4,p5,p6,p7⟩,_⟩:=pdb_cells ((B4.block _ hwC).trans HQC.out);simp only at p0 p1 p2 p3 p4 p5 p6 p7;clear b4 B4 F4))
  all_goals (go_wp2_with fail)
  all_goals go_meet
  all_goals exact⟨rfl,HF5.out,HG5.out⟩
 obtain⟨rfl,FC,GC⟩:=hcut
 have HF2:Hid _:=FC
 have HG2:Hid _:=GC
 have HQ2:Hid _:=(GC.block _ hwC (fun e=>ne (by injection e))).trans HQC.out
 have hw2:w.heap.size<wc.heap.size:=lt_of_block HQ2.out
 clear p0 p1 p2 p3 p4 p5 p6 p7 FC GC HFC HQC HPK
 obtain⟨⟨p0,p1,p2,p3,p4,p5,p6,p7⟩,_⟩:=pdb_cells HQ2.out
 simp only at p0 p1 p2 p3 p4 p5 p6 p7
 obtain⟨X2,hX2⟩:∃X2,X2=wc:=⟨_,rfl⟩
 subst hX2
 go_wp2_with fail
 clear p0 p1 p2 p3 p4 p5 p6 p7
 go_loopw [4,29] (fun _ v wr=>∃q:Nat,q≤s∧v = .int .i64 (q:Int)∧Full wr g (put xs j hd (List.replicate s 2) q n)∧X2.grownBy wr (some g)) (fun _ v _=>s-(intOf v).toNat)
 case atStart=>exact⟨0,Nat.zero_le _,rfl,HF2.out,World.grownBy.refl _ _⟩
 case round=>
  obtain⟨q,hq,rfl,FQ,GQ⟩:=hrel
  have HFQ:Hid _:=FQ
  have HGQ:Hid _:=GQ
  by_cases hql:q<s
  ·have hql':(q:Int)<(s:Int):=by omega
   obtain⟨⟨p0,p1,p2,p3,p4,p5,p6,p7⟩,_⟩:=pdb_cells ((GQ.block _ hw2 (fun e=>ne (by injection e))).trans HQ2.out)
   simp only at p0 p1 p2 p3 p4 p5 p6 p7
   have c0:=full_cell FQ (show j+1+q<_ by rw[HPLN.out q hq];omega)
   have c1:=full_frozen FQ (j+1+q)
   have HF9:Hid (Full (wr.setCell ⟨g,j+1+q,none⟩ (.int .i64 2)) g (put xs j hd (List.replicate s 2) (q+1) n)):=by
    show Full _ _ _
    rw[←HPS.out q hql]
    exact full_set FQ (j+1+q) 2
   have HG9:Hid _:=grown_setG GQ (j+1+q) (.int .i64 2)
   have i1:((j:Int)+1+(q:Int)).toNat=j+1+q:=by omega
   have i2:(0:Int)≤(j:Int)+1+(q:Int):=by omega
   have i3:(j:Int)+1+(q:Int)<(xs.length:Int):=by omega
   have i4:IntKind.i64.wrap ((j:Int)+1)=(j:Int)+1:=by rw[IntKind.wrap_i64];omega
   have i5:IntKind.i64.wrap ((j:Int)+1+(q:Int))=(j:Int)+1+(q:Int):=by rw[IntKind.wrap_i64];omega
   clear FQ GQ
   generalize (put xs j hd (List.replicate s 2) q n).getD (j+1+q) 0=zz at *
   go_wp2
   exact⟨⟨q+1,by omega,by go_num,HF9.out,HG9.out⟩,by simp[intOf];omega⟩
  ·have hql':¬(q:Int)<(s:Int):=by omega
   have e:q=s:=by omega
   subst e
   clear FQ GQ
   go_wp2
   go_end0
   exact⟨rfl,HFQ.out,grown_two (grown_two (grown_two HGX.out HGC.out) HG2.out) HGQ.out⟩
end Go.Proofs.YtocidankimefpaaGreatDoor.hp
