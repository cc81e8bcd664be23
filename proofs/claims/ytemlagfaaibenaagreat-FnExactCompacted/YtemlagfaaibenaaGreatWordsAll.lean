/-
  The functions of chapter 1 once more, each by one contract for every argument.
  Made from the template WordsAll.
-/
import Derived.Test.YtemlagfaaibenaaGreatWordOk
namespace Go.Proofs.YtemlagfaaibenaaGreat.words
open Go.RowKit
def iv (n:Int):Int:=if isI n then n / 4 else 0
def av (n:Int):Int:=if isA n then n / 4-1 else 0
def oa (a:Int):Int:=if 0≤a∧a≤999 then (a+1)*4 else 2
theorem addrOf_any (n:Int) (w:World) (b1 : -9223372036854775808≤n) (b2:n≤9223372036854775807) :
    Calls Tryz.prog 122 #[.int .i64 n] w fun e w'=>e = .returned (.tuple #[.int .i64 (av n),.bool (isA n)])∧w'=w:=by
 cases hi:isA n
 ·have e:av n=0:=by simp[av,hi]
  rw[e];exact addrOf_no n w b1 b2 hi
 ·have e:av n=n / 4-1:=by simp[av,hi]
  rw[e];exact addrOf_yes n w b1 b2 hi
theorem sAddrOf_any (n:Int) (w:World) :
    Calls Tryz.prog 44 #[.int .i64 n] w fun e w'=>e = .returned (.tuple #[.int .i64 (av n),.bool (isA n)])∧w'=w:=by
 cases hi:isA n
 ·have e:av n=0:=by simp[av,hi]
  rw[e];exact sAddrOf_no n w hi
 ·have e:av n=n / 4-1:=by simp[av,hi]
  rw[e];exact sAddrOf_yes n w hi
theorem isA_oa_yes {n:Int} (h1:0≤n) (h2:n≤999):isA (oa n)=true∧av (oa n)=n:=by
 have e:oa n=(n+1)*4:=if_pos ⟨h1,h2⟩
 have hi:isA ((n+1)*4)=true:=by simp[isA];omega
 rw[e]
 exact⟨hi,by rw[show av ((n+1)*4)=(n+1)*4 / 4-1 from if_pos hi];omega⟩
end Go.Proofs.YtemlagfaaibenaaGreat.words
