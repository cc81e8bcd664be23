/- The functions of chapter 1, one contract -/
import Derived.Test.YtocidankimefpaaGreatDoorM1
namespace Go.Proofs.YtocidankimefpaaGreatDoor.words
open Go.RowKit
theorem cS (x lo hi:Int) (w:World) :
    Calls Tryz.prog 138 #[.int .i64 x,.int .i64 lo,.int .i64 hi] w fun e w'=>e = .returned (.bool (decide (lo≤x)&&decide (x≤hi)))∧w'=w:=by
 by_cases h1:lo≤x
 ·by_cases h2:x≤hi
  all_goals
   go_enter Tryz.func138,Tryz.ntmps138;go_wp2;all_goals go_ret
   all_goals exact⟨by simp[h1,h2],rfl⟩
 ·go_enter Tryz.func138,Tryz.ntmps138;go_wp2;all_goals go_ret
  all_goals exact⟨by simp;omega,rfl⟩
theorem AV (a:Int) (h1:0≤a) (h2:a≤999) (w:World) :
    Calls Tryz.prog 26 #[.int .i64 a] w fun e w'=>e = .returned (.int .i64 ((a+1)*4))∧w'=w:=by
 have ho:=or0 ((a+1)*4) (by omega) (by omega);go_enter Tryz.func26,Tryz.ntmps26;go_wp2;go_ret;exact⟨rfl,rfl⟩
def isI (n:Int):Bool:=n % 4==1&&decide (-399999≤n)&&decide (n≤400001)
def isA (n:Int):Bool:=n % 4==0&&decide (4≤n)&&decide (n≤4000)
theorem uz {n:Int} (h:isI n=true):n % 4=1 ∧ -399999≤n∧n≤400001:=by
 simp[isI]at h;omega
theorem wL {n:Int} (h:isI n=false):n % 4≠1∨n < -399999∨400001<n:=by
 simp[isI]at h;omega
theorem uA {n:Int} (h:isA n=true):n % 4=0∧4≤n∧n≤4000:=by
 simp[isA]at h;omega
theorem wM {n:Int} (h:isA n=false):n % 4≠0∨n<4∨4000<n:=by
 simp[isA]at h;omega
theorem cK (n:Int) (w:World) (b1 : -9223372036854775808≤n) (b2:n≤9223372036854775807) :
    Calls Tryz.prog 168 #[.int .i64 n] w fun e w'=>e = .returned (.bool (isI n))∧w'=w:=by
 have hm:=J0 n;have q1 : -2305843009213693952≤n / 4:=by omega
 have q2:n / 4≤2305843009213693952:=by omega
 cases e3:(n % 4==1)
 ·have hi:isI n=false:=by simp[isI,e3]
  rw[hi];clear hi;go_enter Tryz.func168,Tryz.ntmps168;go_wp2;go_ret;exact⟨rfl,rfl⟩
 ·have h3:n % 4=1:=by simpa using e3
  cases hi:isI n
  ·rcases wL hi with h|h|h
   ·exact absurd h3 h
   ·have r1:¬ -100000≤n / 4:=by omega
    clear hi h3;go_enter Tryz.func168,Tryz.ntmps168;go_wp2;go_ret;exact⟨rfl,rfl⟩
   ·have r1 : -100000≤n / 4:=by omega
    have r2:¬n / 4≤100000:=by omega
    clear hi h3;go_enter Tryz.func168,Tryz.ntmps168;go_wp2;go_ret;exact⟨rfl,rfl⟩
  ·obtain⟨_,h1,h2⟩:=uz hi;have r1 : -100000≤n / 4:=by omega
   have r2:n / 4≤100000:=by omega
   clear h3 hi;go_enter Tryz.func168,Tryz.ntmps168;go_wp2;go_ret;exact⟨rfl,rfl⟩
theorem bt (n:Int) (w:World) (b1 : -9223372036854775808≤n) (b2:n≤9223372036854775807) :
    Calls Tryz.prog 182 #[.int .i64 n] w fun e w'=>e = .returned (.bool (isA n))∧w'=w:=by
 have hm:=J0 n;have q1 : -2305843009213693952≤n / 4:=by omega
 have q2:n / 4≤2305843009213693952:=by omega
 cases e3:(n % 4==0)
 ·have hi:isA n=false:=by simp[isA,e3]
  rw[hi];clear hi;go_enter Tryz.func182,Tryz.ntmps182;go_wp2;go_ret;exact⟨rfl,rfl⟩
 ·have h3:n % 4=0:=by simpa using e3
  cases hi:isA n
  ·rcases wM hi with h|h|h
   ·exact absurd h3 h
   ·have r1:¬0≤n / 4-1:=by omega
    clear hi h3;go_enter Tryz.func182,Tryz.ntmps182;go_wp2;go_ret;exact⟨rfl,rfl⟩
   ·have r1:0≤n / 4-1:=by omega
    have r2:¬n / 4-1≤999:=by omega
    clear hi h3;go_enter Tryz.func182,Tryz.ntmps182;go_wp2;go_ret;exact⟨rfl,rfl⟩
  ·obtain⟨_,h1,h2⟩:=uA hi;have r1:0≤n / 4-1:=by omega
   have r2:n / 4-1≤999:=by omega
   clear h3 hi;go_enter Tryz.func182,Tryz.ntmps182;go_wp2;go_ret;exact⟨rfl,rfl⟩
theorem Dy (n:Int) (w:World) (b1 : -9223372036854775808≤n) (b2:n≤9223372036854775807) (hi:isI n=true) :
    Calls Tryz.prog 143 #[.int .i64 n] w fun e w'=>e = .returned (.tuple #[.int .i64 (n / 4),.bool true])∧w'=w:=by
 have q1 : -2305843009213693952≤n / 4:=by omega
 have q2:n / 4≤2305843009213693952:=by omega
 go_enter Tryz.func143,Tryz.ntmps143;go_wp2_with (first|(go_at_call 168;refine (cK _ _ b1 b2).mono ?_;rintro e w' ⟨rfl,rfl⟩)|go_in);go_ret2;exact⟨rfl,rfl⟩
theorem Ff (n:Int) (w:World) (b1 : -9223372036854775808≤n) (b2:n≤9223372036854775807) (hi:isI n=false) :
    Calls Tryz.prog 143 #[.int .i64 n] w fun e w'=>e = .returned (.tuple #[.int .i64 0,.bool false])∧w'=w:=by
 go_enter Tryz.func143,Tryz.ntmps143;go_wp2_with (first|(go_at_call 168;refine (cK _ _ b1 b2).mono ?_;rintro e w' ⟨rfl,rfl⟩)|go_in);go_ret2;exact⟨rfl,rfl⟩
theorem AW (n:Int) (w:World) (b1 : -9223372036854775808≤n) (b2:n≤9223372036854775807) (hi:isA n=true) :
    Calls Tryz.prog 160 #[.int .i64 n] w fun e w'=>e = .returned (.tuple #[.int .i64 (n / 4-1),.bool true])∧w'=w:=by
 have q1 : -2305843009213693952≤n / 4:=by omega
 have q2:n / 4≤2305843009213693952:=by omega
 go_enter Tryz.func160,Tryz.ntmps160;go_wp2_with (first|(go_at_call 182;refine (bt _ _ b1 b2).mono ?_;rintro e w' ⟨rfl,rfl⟩)|go_in);go_ret2;exact⟨rfl,rfl⟩
theorem Dz (n:Int) (w:World) (b1 : -9223372036854775808≤n) (b2:n≤9223372036854775807) (hi:isA n=false) :
    Calls Tryz.prog 160 #[.int .i64 n] w fun e w'=>e = .returned (.tuple #[.int .i64 0,.bool false])∧w'=w:=by
 go_enter Tryz.func160,Tryz.ntmps160;go_wp2_with (first|(go_at_call 182;refine (bt _ _ b1 b2).mono ?_;rintro e w' ⟨rfl,rfl⟩)|go_in);go_ret2;exact⟨rfl,rfl⟩
theorem tw (n:Int) (w:World) (hi:isI n=true) :
    Calls Tryz.prog 140 #[.int .i64 n] w fun e w'=>e = .returned (.tuple #[.int .i64 (n / 4),.bool true])∧w'=w:=by
 obtain⟨h3,h1,h2⟩:=uz hi;have hm:=J0 n;have ht:=Jb n h3;have e3:(n % 4 != 1)=false:=by simp[h3]
 clear h3 hi;go_enter Tryz.func140,Tryz.ntmps140;go_wp2;go_ret2;exact⟨rfl,rfl⟩
theorem rC (n:Int) (w:World) (hi:isI n=false) :
    Calls Tryz.prog 140 #[.int .i64 n] w fun e w'=>e = .returned (.tuple #[.int .i64 0,.bool false])∧w'=w:=by
 have hm:=J0 n;by_cases h1 : -399999≤n
 ·by_cases h2:n≤400001
  ·have h3:n % 4≠1:=by
     rcases wL hi with h|h|h
     ·exact h
     ·omega
     ·omega
   have e3:(n % 4 != 1)=true:=by simp[h3]
   clear h3 hi;go_enter Tryz.func140,Tryz.ntmps140;go_wp2;go_ret2;exact⟨rfl,rfl⟩
  ·clear hi;go_enter Tryz.func140,Tryz.ntmps140;go_wp2;go_ret2;exact⟨rfl,rfl⟩
 ·clear hi;go_enter Tryz.func140,Tryz.ntmps140;go_wp2;go_ret2;exact⟨rfl,rfl⟩
theorem lJ (n:Int) (w:World) (hi:isA n=true) :
    Calls Tryz.prog 87 #[.int .i64 n] w fun e w'=>e = .returned (.tuple #[.int .i64 (n / 4-1),.bool true])∧w'=w:=by
 obtain⟨h3,h1,h2⟩:=uA hi;have e3:(n % 4 != 0)=false:=by simp[h3]
 clear h3 hi;go_enter Tryz.func87,Tryz.ntmps87;go_wp2;go_ret2;exact⟨rfl,rfl⟩
theorem kU (n:Int) (w:World) (hi:isA n=false) :
    Calls Tryz.prog 87 #[.int .i64 n] w fun e w'=>e = .returned (.tuple #[.int .i64 0,.bool false])∧w'=w:=by
 by_cases h1:4≤n
 ·by_cases h2:n≤4000
  ·have h3:n % 4≠0:=by
     rcases wM hi with h|h|h
     ·exact h
     ·omega
     ·omega
   have e3:(n % 4 != 0)=true:=by simp[h3]
   clear h3 hi;go_enter Tryz.func87,Tryz.ntmps87;go_wp2;go_ret2;exact⟨rfl,rfl⟩
  ·clear hi;go_enter Tryz.func87,Tryz.ntmps87;go_wp2;go_ret2;exact⟨rfl,rfl⟩
 ·clear hi;go_enter Tryz.func87,Tryz.ntmps87;go_wp2;go_ret2;exact⟨rfl,rfl⟩
end Go.Proofs.YtocidankimefpaaGreatDoor.words
