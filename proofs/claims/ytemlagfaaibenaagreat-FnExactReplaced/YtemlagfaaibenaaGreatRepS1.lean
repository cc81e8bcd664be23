/-
  Chapter 18 as the specification has it: a note laid (l4Note); where two roots lead (l18Two).
  Made from the template RepS1.
-/
import Derived.Test.YtemlagfaaibenaaGreatM22
import Derived.Test.YtemlagfaaibenaaGreatM12
namespace Go.Proofs.YtemlagfaaibenaaGreat.walks
open Go.RowKit rows heads
set_option maxRecDepth 100000
set_option linter.unusedVariables false
set_option linter.unusedSimpArgs false
theorem nt_set {xs:List Int} {k n:Nat} {hd x:Int} (h:k+n≤xs.length) (h2:2≤n):((fill xs k n 0).set k hd).set (k+1) x=put xs k hd [x] 1 n:=by
 apply List.ext_getElem?
 intro i
 simp only[put,fill,List.getElem?_set,List.getElem?_append,List.length_take,List.getElem?_take,List.getElem?_cons,List.length_cons,List.getElem?_replicate,List.length_append,List.length_replicate,List.getElem?_drop,List.length_nil,List.getElem?_nil,List.length_set,List.length_drop]
 grind
set_option maxHeartbeats 8000000 in
theorem l4Note_any {w:World} {base g len cap k:Nat} {xs:List Int} {s t:Int} (hO:w.ownsRow base 2 1 (.slice (some ⟨g,0,none⟩) len cap) len (cellsOf xs)) (hx:xs.length=len) (hl:len≤1048576) (hg:base≤g) (hbw:base≤w.heap.size) (s0:0≤s) (s1:s≤20) (hkn:k+(sz s).toNat≤len) (t0:0≤t) (t1:t≤1048576) :
    Calls Tryz.prog 77 #[.slice (some ⟨g,0,none⟩) len cap,.int .i64 k,.int .i64 s,.int .i64 t] w fun e w'=>e = .returned (.tuple #[])∧w'.ownsRow base 2 1 (.slice (some ⟨g,0,none⟩) len cap) len (cellsOf (put xs k (pk s 7 0 0 false false) [4*t+4] 1 (sz s).toNat))∧w.grownBy w' (some g):=by
 have hsz:=sz_bounds s0 s1
 have hok7:∀s:Fin 21,hok (s.val:Int) 7 0 0 false false=true:=by decide
 have hok:=hok7 ⟨s.toNat,by omega⟩
 simp only at hok
 rw[Int.toNat_of_nonneg s0]at hok
 obtain⟨n,hn⟩:∃n,(sz s).toNat=n:=⟨_,rfl⟩
 have hsn:sz s=(n:Int):=by omega
 rw[hn]at hkn ⊢
 have h2:2≤n:=by omega
 have hSZ:Hid (∀W,_):=fun W=>l2Size_any s W s0 s1
 rw[hsn]at hSZ
 clear hok7 hn
 have hmul:IntKind.i64.wrap (4*t)=4*t:=by rw[IntKind.wrap_i64];omega
 have hadd:IntKind.i64.wrap (4*t+4)=4*t+4:=by rw[IntKind.wrap_i64];omega
 go_enter Tryz.func77,Tryz.ntmps77
 go_wp2_with fail
 go_loopw [8] (fun i wr=>∃j:Nat,j≤n∧i = .int .i64 (j:Int)∧wr.ownsRow base 2 1 (.slice (some ⟨g,0,none⟩) len cap) len (cellsOf (fill xs k j 0))∧w.grownBy wr (some g)) (fun i _=>n-(intOf i).toNat)
 case atStart=>exact⟨0,by omega,by simp,by rw[fill_zero];exact hO,World.grownBy.refl _ _⟩
 case round=>
  obtain⟨j,hj,rfl,Or,Br⟩:=hrel
  have SZ:=hSZ.out wr
  by_cases hlt:j<n
  ·have hlt':(j:Int)<(n:Int):=by omega
   have c0:=World.ownsRow.cellAt Or (k+j) (by omega)
   have c1:=World.ownsRow.frozenAt Or (k+j)
   have S:=(World.ownsRow.stored Or (k+j) (.int .i64 0)).1
   have e1:(cellsOf (fill xs k j 0)).set (k+j) (.int .i64 0)=cellsOf (fill xs k (j+1) 0):=by
    rw[←fill_set (by omega)];simp[cellsOf,List.map_set]
   rw[e1]at S
   have HO:Hid _:=S
   have HB:Hid _:=gtr Br (gset wr g (k+j) (.int .i64 0))
   obtain⟨y,hy'⟩:∃y,(cellsOf (fill xs k j 0))[k+j]? = some y:=⟨_,List.getElem?_eq_getElem (by simp[fill_length (show k+j≤xs.length by omega)];omega)⟩
   rw[hy']at c0
   clear Or Br S e1 hy' hO
   go_wp2_with (go_at_call 53;refine SZ.mono ?_;clear SZ;rintro e w3 ⟨rfl,hw3⟩;rw[hw3];clear hw3 w3)
   exact⟨⟨j+1,by omega,by go_num,HO,HB⟩,by simp[intOf];omega⟩
  ·have e:j=n:=by omega
   subst e
   have hlt':¬(j:Int)<(j:Int):=by omega
   have HO:Hid _:=Or
   have HB:Hid _:=Br
   have HFR:Hid (((fill xs k j 0).set k (pk s 7 0 0 false false)).set (k+1) (4*t+4)=put xs k (pk s 7 0 0 false false) [4*t+4] 1 j):=nt_set (by omega) h2
   clear Or Br hO
   go_wp2_with (go_at_call 53;refine SZ.mono ?_;clear SZ;rintro e w3 ⟨rfl,hw3⟩;rw[hw3];clear hw3 w3)
   refine (l2Packed_ok s 7 0 0 false false wr hok).mono ?_
   rintro e w2 ⟨rfl,hw2⟩
   have O2:w2.ownsRow base 2 1 (.slice (some ⟨g,0,none⟩) len cap) len (cellsOf (fill xs k j 0)):=by rw[hw2];exact World.ownsRow.alloc HO.out _
   have B2:w.grownBy w2 (some g):=by rw[hw2];exact gtr HB.out (World.grownBy_alloc wr _ _)
   clear hw2 HO HB
   have hfl:(fill xs k j 0).length=len:=by rw[fill_length (by omega)];exact hx
   have c0:=World.ownsRow.cellAt O2 k (by omega)
   have c1:=World.ownsRow.frozenAt O2 k
   have S:=(World.ownsRow.stored O2 k (.int .i64 (pk s 7 0 0 false false))).1
   have d0:=World.ownsRow.cellAt S (k+1) (by omega)
   have d1:=World.ownsRow.frozenAt S (k+1)
   have S2:=(World.ownsRow.stored S (k+1) (.int .i64 (4*t+4))).1
   have e1:((cellsOf (fill xs k j 0)).set k (.int .i64 (pk s 7 0 0 false false))).set (k+1) (.int .i64 (4*t+4))=cellsOf (put xs k (pk s 7 0 0 false false) [4*t+4] 1 j):=by rw[←HFR.out];simp[cellsOf,List.map_set]
   rw[e1]at S2
   have HO:Hid _:=S2
   have HB:Hid _:=gtr (gtr B2 (gset w2 g k (.int .i64 (pk s 7 0 0 false false)))) (gset _ g (k+1) (.int .i64 (4*t+4)))
   obtain⟨y,hy'⟩:∃y,(cellsOf (fill xs k j 0))[k]? = some y:=⟨_,List.getElem?_eq_getElem (by simp[hfl];omega)⟩
   rw[hy']at c0
   obtain⟨y2,hy2⟩:∃y,((cellsOf (fill xs k j 0)).set k (.int .i64 (pk s 7 0 0 false false)))[k+1]? = some y:=⟨_,List.getElem?_eq_getElem (by simp[hfl];omega)⟩
   rw[hy2]at d0
   generalize hpk:pk s 7 0 0 false false=pw at *
   clear O2 B2 S S2 e1 hy' hy2 hlt' hlt HFR
   have HPK:Hid _:=hpk
   clear hpk
   go_wp2
   go_end0
   exact⟨rfl,by rw[HPK.out];exact HO.out,HB.out⟩
end Go.Proofs.YtemlagfaaibenaaGreat.walks
