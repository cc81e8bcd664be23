/-
  Chapter 4 as lists: what a chunk takes, a walk, an object, a row with an object put into it.
  Made from the template WalkD.
-/
import Derived.Test.YtemlagfaaibenaaGreatUnpack
import Derived.Test.YtemlagfaaibenaaGreatM3
import Derived.Test.YtemlagfaaibenaaGreatWordOk
import Derived.Test.YtemlagfaaibenaaGreatM1
namespace Go.Proofs.YtemlagfaaibenaaGreat.walks
open Go.RowKit rows heads words
def AllI (xs:List Int):Prop:=∀x ∈ xs,I64 x
theorem allI_at {xs:List Int} (h:AllI xs) {k:Nat} (hk:k<xs.length):I64 (xs.getD k 0):=by
 have e:xs.getD k 0=xs[k]:=by simp[List.getD_eq_getElem?_getD,List.getElem?_eq_getElem hk]
 rw[e]
 exact h _ (List.getElem_mem hk)
theorem allI_nil:AllI []:=fun _ h=>by simp at h
theorem allI_take {xs:List Int} (h:AllI xs) (n:Nat):AllI (xs.take n):=fun x hx=>h x (List.mem_of_mem_take hx)
theorem uS_bounds (x:Int):0≤uS x∧uS x≤20:=by
 unfold uS
 split
 ·rename_i h
  rw[ok_eq,Bool.and_eq_true]at h
  obtain⟨b1,b2,_⟩:=hok_true h.2
  exact⟨b1,b2⟩
 ·omega
theorem sz_of {s:Int} (h0:0≤s) (h1:s≤20):sz s=s+1+(s+1) % 2:=by simp[sz,inR,h0,h1]
theorem sz_bounds {s:Int} (h0:0≤s) (h1:s≤20):2≤sz s∧sz s≤22∧sz s % 2=0∧s+1≤sz s∧sz s≤s+2:=by rw[sz_of h0 h1];omega
def freeOk (n k:Nat) (y:Int):Bool:=decide (2≤y∧y≤n∧y % 2=0∧(k:Int)+y≤n)
def chunk (xs:List Int) (k:Nat):Int:=
 if (ok (xs.getD k 0) && !uM (xs.getD k 0))=true then
  if uF (xs.getD k 0)=6 then
   if k+1<xs.length∧freeOk xs.length k (xs.getD (k+1) 0)=true then xs.getD (k+1) 0 else 0
  else if (k:Int)+sz (uS (xs.getD k 0))≤xs.length∧(uF (xs.getD k 0)=7→isA (xs.getD (k+1) 0)=true) then sz (uS (xs.getD k 0)) else 0
 else 0
theorem chunk_bounds (xs:List Int) (k:Nat):chunk xs k=0∨(2≤chunk xs k∧chunk xs k % 2=0∧(k:Int)+chunk xs k≤xs.length):=by
 unfold chunk
 split
 ·split
  ·split
   ·rename_i h
    have:=h.2
    simp only[freeOk,decide_eq_true_eq]at this
    omega
   ·exact .inl rfl
  ·split
   ·rename_i h
    obtain⟨b1,b2⟩:=uS_bounds (xs.getD k 0)
    have:=sz_bounds b1 b2
    omega
   ·exact .inl rfl
 ·exact .inl rfl
theorem chunk_le (xs:List Int) (k:Nat):0≤chunk xs k∧chunk xs k≤xs.length:=by
 have:=chunk_bounds xs k
 omega
def walkL (xs:List Int) (t:Nat):Nat→Nat→Option (List Int)
 |0,k=>if k<t then none else some []
 |n+1,k=>if k<t then (if chunk xs k=0∨(k:Int)+chunk xs k > t then none else (walkL xs t n (k+(chunk xs k).toNat)).map ((k:Int) :: ·)) else some []
theorem walkL_end (xs:List Int) (t n k:Nat) (h:¬k<t):walkL xs t n k=some []:=by cases n<;>simp[walkL,h]
theorem walkL_bad (xs:List Int) (t n k:Nat) (h:k<t) (hb:chunk xs k=0∨(k:Int)+chunk xs k > t):walkL xs t n k=none:=by cases n<;>simp[walkL,h,hb]
theorem walkL_step (xs:List Int) (t n k:Nat) (h:k<t) (hb:¬(chunk xs k=0∨(k:Int)+chunk xs k > t)):walkL xs t (n+1) k=(walkL xs t n (k+(chunk xs k).toNat)).map ((k:Int) :: ·):=by simp[walkL,h,hb]
theorem walkL_more (xs:List Int) (t:Nat):∀(n m k:Nat),t-k≤n→t-k≤m→walkL xs t n k=walkL xs t m k:=by
 intro n
 induction n with
 |zero=>intro m k h _;rw[walkL_end _ _ _ _ (by omega),walkL_end _ _ _ _ (by omega)]
 |succ n ih=>
  intro m k h h'
  by_cases h1:k<t
  ·by_cases hb:chunk xs k=0∨(k:Int)+chunk xs k > t
   ·rw[walkL_bad _ _ _ _ h1 hb,walkL_bad _ _ _ _ h1 hb]
   ·have:=chunk_bounds xs k
    obtain⟨m',rfl⟩:∃m',m=m'+1:=⟨m-1,by omega⟩
    rw[walkL_step _ _ _ _ h1 hb,walkL_step _ _ _ _ h1 hb,ih m' _ (by omega) (by omega)]
  ·rw[walkL_end _ _ _ _ h1,walkL_end _ _ _ _ h1]
def walkO (xs:List Int) (k t:Nat):Option (List Int):=walkL xs t (t-k) k
theorem walkO_end {xs:List Int} {k t:Nat} (h:¬k<t):walkO xs k t=some []:=walkL_end _ _ _ _ h
theorem walkO_bad {xs:List Int} {k t:Nat} (h:k<t) (hb:chunk xs k=0∨(k:Int)+chunk xs k > t):walkO xs k t=none:=walkL_bad _ _ _ _ h hb
theorem walkO_step {xs:List Int} {k t:Nat} (h:k<t) (hb:¬(chunk xs k=0∨(k:Int)+chunk xs k > t)):walkO xs k t=(walkO xs (k+(chunk xs k).toNat) t).map ((k:Int) :: ·):=by
 have:=chunk_bounds xs k
 unfold walkO
 obtain⟨m,hm⟩:∃m,t-k=m+1:=⟨t-k-1,by omega⟩
 rw[hm,walkL_step _ _ _ _ h hb,walkL_more xs t m (t-(k+(chunk xs k).toNat)) _ (by omega) (by omega)]
def rangeOk (xs:List Int) (f t:Int):Bool:=rowOk xs&&decide (0≤f∧f≤t∧t≤xs.length)
def walkR (xs:List Int) (f t:Int):Option (List Int):=if rangeOk xs f t=true then walkO xs f.toNat t.toNat else none
def walkOk (xs:List Int) (f t:Int):Bool:=(walkR xs f t).isSome
def walked (xs:List Int) (f t:Int):List Int:=(walkR xs f t).getD []
theorem walkL_length (xs:List Int) (t:Nat) (ht:t≤1048576):∀(n k:Nat) (l:List Int),walkL xs t n k=some l→2*l.length≤t-k∧AllI l:=by
 intro n
 induction n with
 |zero=>
  intro k l h
  unfold walkL at h
  split at h
  ·cases h
  ·cases h;exact⟨by simp,allI_nil⟩
 |succ n ih=>
  intro k l h
  by_cases h1:k<t
  ·by_cases hb:chunk xs k=0∨(k:Int)+chunk xs k > t
   ·rw[walkL_bad _ _ _ _ h1 hb]at h;cases h
   ·have:=chunk_bounds xs k
    rw[walkL_step _ _ _ _ h1 hb]at h
    obtain⟨l',hl',rfl⟩:=Option.map_eq_some_iff.1 h
    obtain⟨i1,i2⟩:=ih _ _ hl'
    refine⟨by simp;omega,fun x hx => ?_⟩
    rcases List.mem_cons.1 hx with rfl|hx
    ·unfold I64;omega
    ·exact i2 x hx
  ·rw[walkL_end _ _ _ _ h1]at h
   cases h;exact⟨by simp,allI_nil⟩
theorem walked_length (xs:List Int) (f t:Int):(walked xs f t).length≤1000∧AllI (walked xs f t):=by
 unfold walked walkR
 split
 ·rename_i h
  simp only[rangeOk,rowOk,Bool.and_eq_true,decide_eq_true_eq]at h
  cases e:walkO xs f.toNat t.toNat with
  |none=>exact⟨by simp,allI_nil⟩
  |some l=>
   have:=walkL_length xs t.toNat (by omega) _ _ _ e
   exact⟨by simp;omega,this.2⟩
 ·exact⟨by simp,allI_nil⟩
def put (xs:List Int) (k:Nat) (hd:Int) (ys:List Int) (j n:Nat):List Int:=xs.take k++(hd :: (ys.take j++List.replicate (n-1-j) 0))++xs.drop (k+n)
theorem put_length {xs ys:List Int} {k j n:Nat} {hd:Int} (h:k+n≤xs.length) (hj:j≤ys.length) (hn:j<n):(put xs k hd ys j n).length=xs.length:=by
 simp[put];omega
end Go.Proofs.YtemlagfaaibenaaGreat.walks
