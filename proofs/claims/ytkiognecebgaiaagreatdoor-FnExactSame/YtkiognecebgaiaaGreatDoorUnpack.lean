/-
  Unpacked, of the program and of the specification: both tell the same head of the same numbers.
  Made from the template Unpack.
-/
import Derived.Test.YtkiognecebgaiaaGreatDoorM5
import Derived.Laws.BitsLemmas
import Derived.Laws.BitsAllLaws
namespace Go.Proofs.YtkiognecebgaiaaGreatDoor.heads
open Go.RowKit
theorem nat_bit (a k:Nat):a &&& 2 ^ k=if a / 2 ^ k % 2=1 then 2 ^ k else 0:=by
 have hb:a.testBit k=decide (a / 2 ^ k % 2=1):=Nat.testBit_eq_decide_div_mod_eq
 apply Nat.eq_of_testBit_eq
 intro i
 rw[Nat.testBit_and,Nat.testBit_two_pow]
 by_cases h:a / 2 ^ k % 2=1
 ·rw[if_pos h,Nat.testBit_two_pow]
  by_cases e:k=i
  ·subst e;simp[hb,h]
  ·simp[e]
 ·rw[if_neg h,Nat.zero_testBit]
  by_cases e:k=i
  ·subst e;simp[hb,h]
  ·simp[e]
theorem bitAt (n:Int) (h0:0≤n) (h1:n≤9223372036854775807) (k:Nat) (hk:k≤62) (m:Int) (hm:m=2 ^ k) :
    bits .and .i64 n m=if n / m % 2=1 then m else 0:=by
 subst hm
 have hc:((2:Int) ^ k)=((2 ^ k:Nat):Int):=by simp
 have hle:2 ^ k≤2 ^ 62:=Nat.pow_le_pow_right (by decide) hk
 have e62:(2:Nat) ^ 62=4611686018427387904:=by decide
 have hp:0<2 ^ k:=Nat.two_pow_pos k
 obtain⟨a,rfl⟩:=Int.eq_ofNat_of_zero_le h0
 have h3:(BitVec.ofInt 64 ((2:Int) ^ k)).toNat=2 ^ k:=by
  rw[hc,BitVec.ofInt_natCast,BitVec.toNat_ofNat,Nat.mod_eq_of_lt]
  have:(2:Nat) ^ 62<2 ^ 64:=by decide
  omega
 have h4:(BitVec.ofInt 64 (a:Int)).toNat=a:=by
  rw[BitVec.ofInt_natCast,BitVec.toNat_ofNat,Nat.mod_eq_of_lt]
  have:(9223372036854775807:Nat)<2 ^ 64:=by decide
  omega
 have key:(BitVec.ofInt 64 (a:Int) &&& BitVec.ofInt 64 ((2:Int) ^ k)).toNat=if a / 2 ^ k % 2=1 then 2 ^ k else 0:=by
  rw[BitVec.toNat_and,h3,h4,nat_bit]
 show IntKind.i64.wrap ((BitVec.ofInt 64 (a:Int) &&& BitVec.ofInt 64 ((2:Int) ^ k)).toNat:Nat)=_
 rw[key,IntKind.wrap_i64,hc]
 have e2:((a:Int) / ((2 ^ k:Nat):Int) % 2=1)↔(a / 2 ^ k % 2=1):=by
  constructor
  ·intro h;exact_mod_cast h
  ·intro h;exact_mod_cast h
 by_cases hb:a / 2 ^ k % 2=1
 ·rw[if_pos hb,if_pos (e2.2 hb)]
  generalize 2 ^ k=q at *
  omega
 ·rw[if_neg hb,if_neg (fun h=>hb (e2.1 h))]
  decide
theorem bit32 (n:Int) (h0:0≤n) (h1:n≤9223372036854775807):bits .and .i64 n 4294967296=if n / 4294967296 % 2=1 then 4294967296 else 0:=bitAt n h0 h1 32 (by decide) _ (by decide)
theorem bit33 (n:Int) (h0:0≤n) (h1:n≤9223372036854775807):bits .and .i64 n 8589934592=if n / 8589934592 % 2=1 then 8589934592 else 0:=bitAt n h0 h1 33 (by decide) _ (by decide)
abbrev bS (n:Int):Int:=n % 64
abbrev bF (n:Int):Int:=n % 512 / 64
abbrev bC (n:Int):Int:=n % 65536 / 512
abbrev bH (n:Int):Int:=n % 4294967296 / 65536
abbrev bP (n:Int):Bool:=decide (n / 4294967296 % 2=1)
abbrev bM (n:Int):Bool:=decide (n / 8589934592 % 2=1)
theorem headOfBits_any (n:Int) (h0:0≤n) (h1:n≤9223372036854775807) (w:World) :
    Calls Tryz.prog 222 #[.int .i64 n] w fun e w'=>
     e = .returned (hv (bS n) (bF n) (bC n) (bH n) (bP n) (bM n))∧w'=w.alloc (hb (bS n) (bF n) (bC n) (bH n) (bP n) (bM n)):=by
 have e32:=bit32 n h0 h1
 have e33:=bit33 n h0 h1
 by_cases p:n / 4294967296 % 2=1<;>by_cases m:n / 8589934592 % 2=1
 all_goals
  simp only[p,m,if_true,if_false]at e32 e33
  go_enter Tryz.func222,Tryz.ntmps222
  go_wp2
  exact bodyPost_ret (v:=hv (bS n) (bF n) (bC n) (bH n) (bP n) (bM n)) (by simp[results,Tryz.results222,go_sem,hv,p,m]) rfl ⟨rfl,by simp[hb,bS,bF,bC,bH,bP,bM,p,m]⟩
def ok (n:Int):Bool:=decide (0≤n)&&(pkd (bS n) (bF n) (bC n) (bH n) (bP n) (bM n)==n)
theorem pk_bits (n:Int) (h0:0≤n) (h1:n≤17179869183):pk (bS n) (bF n) (bC n) (bH n) (bP n) (bM n)=n:=by
 simp only[pk,bS,bF,bC,bH,bP,bM,decide_eq_true_eq]
 split<;>split<;>omega
theorem pk_least {s f c h:Int} {p m:Bool} (e:hok s f c h p m=true):0≤pk s f c h p m∧pk s f c h p m≤17179869183:=by
 obtain⟨b1,b2,b3,b4,b5,b6,b7,b8⟩:=hok_true e
 unfold pk
 split<;>split<;>omega
theorem ok_eq (n:Int):ok n=(inR 0 17179869183 n&&hok (bS n) (bF n) (bC n) (bH n) (bP n) (bM n)):=by
 unfold ok pkd
 cases hk:hok (bS n) (bF n) (bC n) (bH n) (bP n) (bM n)
 ·simp;omega
 ·have:=pk_least hk
  by_cases h:inR 0 17179869183 n=true
  ·obtain⟨h0,h1⟩:=inR_true h
   have e:=pk_bits n h0 h1
   simp[h,e,h0]
  ·have h':inR 0 17179869183 n=false:=by simpa using h
   have:=inR_false h'
   simp[h'];omega
theorem unpacked_yes (n:Int) (h0:0≤n) (h1:n≤9223372036854775807) (e:pkd (bS n) (bF n) (bC n) (bH n) (bP n) (bM n)=n) (w:World) :
    Calls Tryz.prog 217 #[.int .i64 n] w fun e w'=>e = .returned (.tuple #[hv (bS n) (bF n) (bC n) (bH n) (bP n) (bM n),.bool true])∧Below w.heap.size w w':=by
 have HD:∀w,_:=fun w=>headOfBits_any n h0 h1 w
 generalize hs:bS n=s at *
 generalize hf:bF n=f at *
 generalize hc:bC n=c at *
 generalize hh:bH n=h at *
 generalize hp:bP n=p at *
 generalize hm:bM n=m at *
 clear hs hf hc hh hp hm
 have nn:¬n<0:=by omega
 go_enter Tryz.func217,Tryz.ntmps217
 go_wp2_with (first|(go_at_call 222;refine (HD _).mono ?_;rintro e w' ⟨rfl,rfl⟩)|(go_at_call 223;refine (packed_any _ _ _ _ _ _ _).mono ?_;rintro e w' ⟨rfl,rfl⟩))
 refine bodyPost_ret (v:=.tuple #[hv s f c h p m,.bool true]) (by simp[results,Tryz.results217,go_sem,hv]) rfl ⟨rfl,?_⟩
 repeat (first|exact Below.refl _ _|refine Below.alloc ?_ (by simp;try omega) _|refine Below.setCell ?_ (by simp;try omega) _)
theorem unpacked_neg (n:Int) (h0:n<0) (w:World) :
    Calls Tryz.prog 217 #[.int .i64 n] w fun e w'=>e = .returned (.tuple #[hv 0 0 0 0 false false,.bool false])∧Below w.heap.size w w':=by
 go_enter Tryz.func217,Tryz.ntmps217
 go_wp2
 refine bodyPost_ret (v:=.tuple #[hv 0 0 0 0 false false,.bool false]) (by simp[results,Tryz.results217,go_sem,hv]) rfl ⟨rfl,?_⟩
 repeat (first|exact Below.refl _ _|refine Below.alloc ?_ (by simp;try omega) _|refine Below.setCell ?_ (by simp;try omega) _)
theorem unpacked_no (n:Int) (h0:0≤n) (h1:n≤9223372036854775807) (e:¬pkd (bS n) (bF n) (bC n) (bH n) (bP n) (bM n)=n) (w:World) :
    Calls Tryz.prog 217 #[.int .i64 n] w fun e w'=>e = .returned (.tuple #[hv 0 0 0 0 false false,.bool false])∧Below w.heap.size w w':=by
 have HD:∀w,_:=fun w=>headOfBits_any n h0 h1 w
 generalize hs:bS n=s at *
 generalize hf:bF n=f at *
 generalize hc:bC n=c at *
 generalize hh:bH n=h at *
 generalize hp:bP n=p at *
 generalize hm:bM n=m at *
 clear hs hf hc hh hp hm
 have nn:¬n<0:=by omega
 go_enter Tryz.func217,Tryz.ntmps217
 go_wp2_with (first|(go_at_call 222;refine (HD _).mono ?_;rintro e w' ⟨rfl,rfl⟩)|(go_at_call 223;refine (packed_any _ _ _ _ _ _ _).mono ?_;rintro e w' ⟨rfl,rfl⟩))
 refine bodyPost_ret (v:=.tuple #[hv 0 0 0 0 false false,.bool false]) (by simp[results,Tryz.results217,go_sem,hv]) rfl ⟨rfl,?_⟩
 repeat (first|exact Below.refl _ _|refine Below.alloc ?_ (by simp;try omega) _|refine Below.setCell ?_ (by simp;try omega) _)
theorem sUnpacked_out (n:Int) (i:inR 0 17179869183 n=false) (w:World) :
    Calls Tryz.prog 130 #[.int .i64 n] w fun e w'=>e = .returned (.tuple #[hv 0 0 0 0 false false,.bool false])∧Below w.heap.size w w':=by
 go_enter Tryz.func130,Tryz.ntmps130
 go_wp2_with (go_at_call 56;refine (l1In_any _ _ _ _).mono ?_;rintro e w' ⟨rfl,rfl⟩)
 refine bodyPost_ret (v:=.tuple #[hv 0 0 0 0 false false,.bool false]) (by simp[results,Tryz.results130,go_sem,hv]) rfl ⟨rfl,?_⟩
 repeat (first|exact Below.refl _ _|refine Below.alloc ?_ (by simp;try omega) _|refine Below.setCell ?_ (by simp;try omega) _)
theorem sUnpacked_in (n:Int) (i:inR 0 17179869183 n=true) (s f c g:Int) (p m:Bool) (e0:n % 64=s) (e1:n / 64 % 8=f) (e2:n / 512 % 128=c) (e3:n / 65536 % 65536=g)
    (e4:(n / 4294967296 % 2==1)=p) (e5:(n / 8589934592==1)=m) (w:World) :
    Calls Tryz.prog 130 #[.int .i64 n] w fun e w'=>e = .returned (.tuple #[if hok s f c g p m then hv s f c g p m else hv 0 0 0 0 false false,.bool (hok s f c g p m)])∧Below w.heap.size w w':=by
 obtain⟨h0,h1⟩:=inR_true i
 cases hk:hok s f c g p m
 ·go_enter Tryz.func130,Tryz.ntmps130
  go_wp2_with (first|(go_at_call 56;refine (l1In_any _ _ _ _).mono ?_;rintro e w' ⟨rfl,rfl⟩)|(go_at_call 57;refine (sHeadOk_any _ _ _ _ _ _ _).mono ?_;rintro e w' ⟨rfl,rfl⟩))
  refine bodyPost_ret (v:=.tuple #[hv 0 0 0 0 false false,.bool false]) (by simp[results,Tryz.results130,go_sem,hv]) rfl ⟨by simp,?_⟩
  repeat (first|exact Below.refl _ _|refine Below.alloc ?_ (by simp;try omega) _|refine Below.setCell ?_ (by simp;try omega) _)
 ·go_enter Tryz.func130,Tryz.ntmps130
  go_wp2_with (first|(go_at_call 56;refine (l1In_any _ _ _ _).mono ?_;rintro e w' ⟨rfl,rfl⟩)|(go_at_call 57;refine (sHeadOk_any _ _ _ _ _ _ _).mono ?_;rintro e w' ⟨rfl,rfl⟩))
  refine bodyPost_ret (v:=.tuple #[hv s f c g p m,.bool true]) (by simp[results,Tryz.results130,go_sem,hv]) rfl ⟨by simp,?_⟩
  repeat (first|exact Below.refl _ _|refine Below.alloc ?_ (by simp;try omega) _|refine Below.setCell ?_ (by simp;try omega) _)
def uS (n:Int):Int:=if ok n=true then bS n else 0
def uF (n:Int):Int:=if ok n=true then bF n else 0
def uC (n:Int):Int:=if ok n=true then bC n else 0
def uH (n:Int):Int:=if ok n=true then bH n else 0
def uP (n:Int):Bool:=if ok n=true then bP n else false
def uM (n:Int):Bool:=if ok n=true then bM n else false
theorem unpacked_any (n:Int) (h1:n≤9223372036854775807) (w:World) :
    Calls Tryz.prog 217 #[.int .i64 n] w fun e w'=>e = .returned (.tuple #[hv (uS n) (uF n) (uC n) (uH n) (uP n) (uM n),.bool (ok n)])∧Below w.heap.size w w':=by
 by_cases h0:n<0
 ·have e:ok n=false:=by simp[ok];omega
  simp only[uS,uF,uC,uH,uP,uM,e,Bool.false_eq_true,if_false]
  exact unpacked_neg n h0 w
 ·by_cases h:pkd (bS n) (bF n) (bC n) (bH n) (bP n) (bM n)=n
  ·have e:ok n=true:=by simp[ok,h];omega
   simp only[uS,uF,uC,uH,uP,uM,e,if_true]
   exact unpacked_yes n (by omega) h1 h w
  ·have e:ok n=false:=by
     unfold ok
     rw[Bool.and_eq_false_iff]
     exact .inr (by simpa using h)
   simp only[uS,uF,uC,uH,uP,uM,e,Bool.false_eq_true,if_false]
   exact unpacked_no n (by omega) h1 h w
theorem sUnpacked_any (n:Int) (w:World) :
    Calls Tryz.prog 130 #[.int .i64 n] w fun e w'=>e = .returned (.tuple #[hv (uS n) (uF n) (uC n) (uH n) (uP n) (uM n),.bool (ok n)])∧Below w.heap.size w w':=by
 cases i:inR 0 17179869183 n
 ·have e:ok n=false:=by rw[ok_eq,i];rfl
  simp only[uS,uF,uC,uH,uP,uM,e,Bool.false_eq_true,if_false]
  exact sUnpacked_out n i w
 ·obtain⟨h0,h1⟩:=inR_true i
  have e:ok n=hok (bS n) (bF n) (bC n) (bH n) (bP n) (bM n):=by rw[ok_eq,i];rfl
  have key:=sUnpacked_in n i (bS n) (bF n) (bC n) (bH n) (bP n) (bM n) rfl (by simp only[bF];omega) (by simp only[bC];omega) (by simp only[bH];omega)
   rfl (by
    rw[Bool.eq_iff_iff]
    simp[bM]
    omega) w
  rw[←e]at key
  refine key.mono ?_
  rintro e' w' ⟨rfl,hw⟩
  refine⟨?_,hw⟩
  cases ho:ok n<;>simp[uS,uF,uC,uH,uP,uM,ho]
end Go.Proofs.YtkiognecebgaiaaGreatDoor.heads
