/-
  The functions of chapter 1, one contract each: what the call returns, and that it leaves memory as it was.
  Made from the template Words.
-/
import Derived.Test.YtkiognecebgaiaaGreatDoorRows
import Derived.Test.YtkiognecebgaiaaGreatDoorM1
import Derived.WalkKit
import Derived.WalkSpells
import Derived.WalkLawsBesides
namespace Go.Proofs.YtkiognecebgaiaaGreatDoor.words
open Go.RowKit
theorem l1In_any (x lo hi:Int) (w:World) :
    Calls Tryz.prog 56 #[.int .i64 x,.int .i64 lo,.int .i64 hi] w fun e w'=>e = .returned (.bool (decide (lo≤x)&&decide (x≤hi)))∧w'=w:=by
 by_cases h1:lo≤x
 ·by_cases h2:x≤hi
  all_goals
   go_enter Tryz.func56,Tryz.ntmps56
   go_wp2
   all_goals go_ret
   all_goals exact⟨by simp[h1,h2],rfl⟩
 ·go_enter Tryz.func56,Tryz.ntmps56
  go_wp2
  all_goals go_ret
  all_goals exact⟨by simp;omega,rfl⟩
def isI (n:Int):Bool:=n % 4==1&&decide (-399999≤n)&&decide (n≤400001)
def isA (n:Int):Bool:=n % 4==0&&decide (4≤n)&&decide (n≤4000)
theorem isI_true {n:Int} (h:isI n=true):n % 4=1 ∧ -399999≤n∧n≤400001:=by
 simp[isI]at h;omega
theorem isI_false {n:Int} (h:isI n=false):n % 4≠1∨n < -399999∨400001<n:=by
 simp[isI]at h;omega
theorem isA_true {n:Int} (h:isA n=true):n % 4=0∧4≤n∧n≤4000:=by
 simp[isA]at h;omega
theorem isA_false {n:Int} (h:isA n=false):n % 4≠0∨n<4∨4000<n:=by
 simp[isA]at h;omega
theorem isInt_any (n:Int) (w:World) (b1 : -9223372036854775808≤n) (b2:n≤9223372036854775807) :
    Calls Tryz.prog 201 #[.int .i64 n] w fun e w'=>e = .returned (.bool (isI n))∧w'=w:=by
 have hm:=and3 n
 have q1 : -2305843009213693952≤n / 4:=by omega
 have q2:n / 4≤2305843009213693952:=by omega
 cases e3:(n % 4==1)
 ·have hi:isI n=false:=by simp[isI,e3]
  rw[hi]
  clear hi
  go_enter Tryz.func201,Tryz.ntmps201
  go_wp2
  go_ret
  exact⟨rfl,rfl⟩
 ·have h3:n % 4=1:=by simpa using e3
  cases hi:isI n
  ·rcases isI_false hi with h|h|h
   ·exact absurd h3 h
   ·have r1:¬ -100000≤n / 4:=by omega
    clear hi h3
    go_enter Tryz.func201,Tryz.ntmps201
    go_wp2
    go_ret
    exact⟨rfl,rfl⟩
   ·have r1 : -100000≤n / 4:=by omega
    have r2:¬n / 4≤100000:=by omega
    clear hi h3
    go_enter Tryz.func201,Tryz.ntmps201
    go_wp2
    go_ret
    exact⟨rfl,rfl⟩
  ·obtain⟨_,h1,h2⟩:=isI_true hi
   have r1 : -100000≤n / 4:=by omega
   have r2:n / 4≤100000:=by omega
   clear h3 hi
   go_enter Tryz.func201,Tryz.ntmps201
   go_wp2
   go_ret
   exact⟨rfl,rfl⟩
theorem isAddr_any (n:Int) (w:World) (b1 : -9223372036854775808≤n) (b2:n≤9223372036854775807) :
    Calls Tryz.prog 198 #[.int .i64 n] w fun e w'=>e = .returned (.bool (isA n))∧w'=w:=by
 have hm:=and3 n
 have q1 : -2305843009213693952≤n / 4:=by omega
 have q2:n / 4≤2305843009213693952:=by omega
 cases e3:(n % 4==0)
 ·have hi:isA n=false:=by simp[isA,e3]
  rw[hi]
  clear hi
  go_enter Tryz.func198,Tryz.ntmps198
  go_wp2
  go_ret
  exact⟨rfl,rfl⟩
 ·have h3:n % 4=0:=by simpa using e3
  cases hi:isA n
  ·rcases isA_false hi with h|h|h
   ·exact absurd h3 h
   ·have r1:¬0≤n / 4-1:=by omega
    clear hi h3
    go_enter Tryz.func198,Tryz.ntmps198
    go_wp2
    go_ret
    exact⟨rfl,rfl⟩
   ·have r1:0≤n / 4-1:=by omega
    have r2:¬n / 4-1≤999:=by omega
    clear hi h3
    go_enter Tryz.func198,Tryz.ntmps198
    go_wp2
    go_ret
    exact⟨rfl,rfl⟩
  ·obtain⟨_,h1,h2⟩:=isA_true hi
   have r1:0≤n / 4-1:=by omega
   have r2:n / 4-1≤999:=by omega
   clear h3 hi
   go_enter Tryz.func198,Tryz.ntmps198
   go_wp2
   go_ret
   exact⟨rfl,rfl⟩
theorem intOf_yes (n:Int) (w:World) (b1 : -9223372036854775808≤n) (b2:n≤9223372036854775807) (hi:isI n=true) :
    Calls Tryz.prog 186 #[.int .i64 n] w fun e w'=>e = .returned (.tuple #[.int .i64 (n / 4),.bool true])∧w'=w:=by
 have q1 : -2305843009213693952≤n / 4:=by omega
 have q2:n / 4≤2305843009213693952:=by omega
 go_enter Tryz.func186,Tryz.ntmps186
 go_wp2_with (first|(go_at_call 201;refine (isInt_any _ _ b1 b2).mono ?_;rintro e w' ⟨rfl,rfl⟩)|go_in)
 go_ret2
 exact⟨rfl,rfl⟩
theorem intOf_no (n:Int) (w:World) (b1 : -9223372036854775808≤n) (b2:n≤9223372036854775807) (hi:isI n=false) :
    Calls Tryz.prog 186 #[.int .i64 n] w fun e w'=>e = .returned (.tuple #[.int .i64 0,.bool false])∧w'=w:=by
 go_enter Tryz.func186,Tryz.ntmps186
 go_wp2_with (first|(go_at_call 201;refine (isInt_any _ _ b1 b2).mono ?_;rintro e w' ⟨rfl,rfl⟩)|go_in)
 go_ret2
 exact⟨rfl,rfl⟩
theorem addrOf_yes (n:Int) (w:World) (b1 : -9223372036854775808≤n) (b2:n≤9223372036854775807) (hi:isA n=true) :
    Calls Tryz.prog 196 #[.int .i64 n] w fun e w'=>e = .returned (.tuple #[.int .i64 (n / 4-1),.bool true])∧w'=w:=by
 have q1 : -2305843009213693952≤n / 4:=by omega
 have q2:n / 4≤2305843009213693952:=by omega
 go_enter Tryz.func196,Tryz.ntmps196
 go_wp2_with (first|(go_at_call 198;refine (isAddr_any _ _ b1 b2).mono ?_;rintro e w' ⟨rfl,rfl⟩)|go_in)
 go_ret2
 exact⟨rfl,rfl⟩
theorem addrOf_no (n:Int) (w:World) (b1 : -9223372036854775808≤n) (b2:n≤9223372036854775807) (hi:isA n=false) :
    Calls Tryz.prog 196 #[.int .i64 n] w fun e w'=>e = .returned (.tuple #[.int .i64 0,.bool false])∧w'=w:=by
 go_enter Tryz.func196,Tryz.ntmps196
 go_wp2_with (first|(go_at_call 198;refine (isAddr_any _ _ b1 b2).mono ?_;rintro e w' ⟨rfl,rfl⟩)|go_in)
 go_ret2
 exact⟨rfl,rfl⟩
theorem sIntOf_yes (n:Int) (w:World) (hi:isI n=true) :
    Calls Tryz.prog 131 #[.int .i64 n] w fun e w'=>e = .returned (.tuple #[.int .i64 (n / 4),.bool true])∧w'=w:=by
 obtain⟨h3,h1,h2⟩:=isI_true hi
 have hm:=and3 n
 have ht:=tdiv4 n h3
 have e3:(n % 4 != 1)=false:=by simp[h3]
 clear h3 hi
 go_enter Tryz.func131,Tryz.ntmps131
 go_wp2
 go_ret2
 exact⟨rfl,rfl⟩
theorem sIntOf_no (n:Int) (w:World) (hi:isI n=false) :
    Calls Tryz.prog 131 #[.int .i64 n] w fun e w'=>e = .returned (.tuple #[.int .i64 0,.bool false])∧w'=w:=by
 have hm:=and3 n
 by_cases h1 : -399999≤n
 ·by_cases h2:n≤400001
  ·have h3:n % 4≠1:=by
     rcases isI_false hi with h|h|h
     ·exact h
     ·omega
     ·omega
   have e3:(n % 4 != 1)=true:=by simp[h3]
   clear h3 hi
   go_enter Tryz.func131,Tryz.ntmps131
   go_wp2
   go_ret2
   exact⟨rfl,rfl⟩
  ·clear hi
   go_enter Tryz.func131,Tryz.ntmps131
   go_wp2
   go_ret2
   exact⟨rfl,rfl⟩
 ·clear hi
  go_enter Tryz.func131,Tryz.ntmps131
  go_wp2
  go_ret2
  exact⟨rfl,rfl⟩
theorem sAddrOf_yes (n:Int) (w:World) (hi:isA n=true) :
    Calls Tryz.prog 97 #[.int .i64 n] w fun e w'=>e = .returned (.tuple #[.int .i64 (n / 4-1),.bool true])∧w'=w:=by
 obtain⟨h3,h1,h2⟩:=isA_true hi
 have e3:(n % 4 != 0)=false:=by simp[h3]
 clear h3 hi
 go_enter Tryz.func97,Tryz.ntmps97
 go_wp2
 go_ret2
 exact⟨rfl,rfl⟩
theorem sAddrOf_no (n:Int) (w:World) (hi:isA n=false) :
    Calls Tryz.prog 97 #[.int .i64 n] w fun e w'=>e = .returned (.tuple #[.int .i64 0,.bool false])∧w'=w:=by
 by_cases h1:4≤n
 ·by_cases h2:n≤4000
  ·have h3:n % 4≠0:=by
     rcases isA_false hi with h|h|h
     ·exact h
     ·omega
     ·omega
   have e3:(n % 4 != 0)=true:=by simp[h3]
   clear h3 hi
   go_enter Tryz.func97,Tryz.ntmps97
   go_wp2
   go_ret2
   exact⟨rfl,rfl⟩
  ·clear hi
   go_enter Tryz.func97,Tryz.ntmps97
   go_wp2
   go_ret2
   exact⟨rfl,rfl⟩
 ·clear hi
  go_enter Tryz.func97,Tryz.ntmps97
  go_wp2
  go_ret2
  exact⟨rfl,rfl⟩
end Go.Proofs.YtkiognecebgaiaaGreatDoor.words
