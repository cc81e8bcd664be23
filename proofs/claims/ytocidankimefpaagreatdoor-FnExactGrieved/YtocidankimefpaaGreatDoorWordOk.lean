/- WordOk, the program's and the specificat -/
import Derived.Test.YtocidankimefpaaGreatDoorWords
namespace Go.Proofs.YtocidankimefpaaGreatDoor.words
open Go.RowKit
def isW (n:Int):Bool:=n==2 || isI n || isA n
theorem jx (n:Int) (w:World) :
    Calls Tryz.prog 139 #[.int .i64 n] w fun e w'=>e = .returned (.bool (isW n))∧w'=w:=by
 cases hi:isI n
 ·cases ha:isA n
  ·cases h2:(n==2)
   all_goals
    go_enter Tryz.func139,Tryz.ntmps139;go_wp2_with (first|(go_at_call 140;refine (rC _ _ hi).mono ?_;rintro e w' ⟨rfl,rfl⟩)|(go_at_call 87;refine (kU _ _ ha).mono ?_;rintro e w' ⟨rfl,rfl⟩));all_goals go_ret
    all_goals exact⟨by simp[isW,hi,ha,h2],rfl⟩
  ·cases h2:(n==2)
   all_goals
    go_enter Tryz.func139,Tryz.ntmps139;go_wp2_with (first|(go_at_call 140;refine (rC _ _ hi).mono ?_;rintro e w' ⟨rfl,rfl⟩)|(go_at_call 87;refine (lJ _ _ ha).mono ?_;rintro e w' ⟨rfl,rfl⟩));all_goals go_ret
    all_goals exact⟨by simp[isW,hi,ha,h2],rfl⟩
 ·cases ha:isA n
  ·cases h2:(n==2)
   all_goals
    go_enter Tryz.func139,Tryz.ntmps139;go_wp2_with (first|(go_at_call 140;refine (tw _ _ hi).mono ?_;rintro e w' ⟨rfl,rfl⟩)|(go_at_call 87;refine (kU _ _ ha).mono ?_;rintro e w' ⟨rfl,rfl⟩));all_goals go_ret
    all_goals exact⟨by simp[isW,hi,ha,h2],rfl⟩
  ·have h1:=uz hi;have h3:=uA ha;omega
set_option maxHeartbeats 1600000 in
theorem AU (n:Int) (w:World) (b1 : -9223372036854775808≤n) (b2:n≤9223372036854775807) :
    Calls Tryz.prog 195 #[.int .i64 n] w fun e w'=>e = .returned (.bool (isW n))∧Grown w w'∧Below w.heap.size w w':=by
 cases h2:(n==2)
 ·cases hi:isI n
  ·cases ha:isA n
   ·have hw:isW n=false:=by simp[isW,h2,hi,ha]
    rw[hw];clear hw;go_enter Tryz.func195,Tryz.ntmps195;go_wp2_with (first|(go_at_call 168;refine (cK _ _ b1 b2).mono ?_;rintro e w' ⟨rfl,rfl⟩)|(go_at_call 182;refine (bt _ _ b1 b2).mono ?_;rintro e w' ⟨rfl,rfl⟩)|go_in);refine wp_loop_rounds 4 ?_;rw[rounds_succ];go_wp2_with (first|(go_at_call 168;refine (cK _ _ b1 b2).mono ?_;rintro e w' ⟨rfl,rfl⟩)|(go_at_call 182;refine (bt _ _ b1 b2).mono ?_;rintro e w' ⟨rfl,rfl⟩)|go_in);rw[rounds_succ];go_wp2_with (first|(go_at_call 168;refine (cK _ _ b1 b2).mono ?_;rintro e w' ⟨rfl,rfl⟩)|(go_at_call 182;refine (bt _ _ b1 b2).mono ?_;rintro e w' ⟨rfl,rfl⟩)|go_in);rw[rounds_succ];go_wp2_with (first|(go_at_call 168;refine (cK _ _ b1 b2).mono ?_;rintro e w' ⟨rfl,rfl⟩)|(go_at_call 182;refine (bt _ _ b1 b2).mono ?_;rintro e w' ⟨rfl,rfl⟩)|go_in);rw[rounds_succ];go_wp2_with (first|(go_at_call 168;refine (cK _ _ b1 b2).mono ?_;rintro e w' ⟨rfl,rfl⟩)|(go_at_call 182;refine (bt _ _ b1 b2).mono ?_;rintro e w' ⟨rfl,rfl⟩)|go_in);go_ret;exact⟨rfl,by repeat (first|exact Grown.refl _|apply Grown.drew|apply Grown.alloc),(Below.refl _ _).alloc (Nat.le_refl _) _⟩
   ·have hw:isW n=true:=by simp[isW,ha]
    rw[hw];clear hw;go_enter Tryz.func195,Tryz.ntmps195;go_wp2_with (first|(go_at_call 168;refine (cK _ _ b1 b2).mono ?_;rintro e w' ⟨rfl,rfl⟩)|(go_at_call 182;refine (bt _ _ b1 b2).mono ?_;rintro e w' ⟨rfl,rfl⟩)|go_in);refine wp_loop_rounds 3 ?_;rw[rounds_succ];go_wp2_with (first|(go_at_call 168;refine (cK _ _ b1 b2).mono ?_;rintro e w' ⟨rfl,rfl⟩)|(go_at_call 182;refine (bt _ _ b1 b2).mono ?_;rintro e w' ⟨rfl,rfl⟩)|go_in);rw[rounds_succ];go_wp2_with (first|(go_at_call 168;refine (cK _ _ b1 b2).mono ?_;rintro e w' ⟨rfl,rfl⟩)|(go_at_call 182;refine (bt _ _ b1 b2).mono ?_;rintro e w' ⟨rfl,rfl⟩)|go_in);rw[rounds_succ];go_wp2_with (first|(go_at_call 168;refine (cK _ _ b1 b2).mono ?_;rintro e w' ⟨rfl,rfl⟩)|(go_at_call 182;refine (bt _ _ b1 b2).mono ?_;rintro e w' ⟨rfl,rfl⟩)|go_in);go_ret;exact⟨rfl,by repeat (first|exact Grown.refl _|apply Grown.drew|apply Grown.alloc),(Below.refl _ _).alloc (Nat.le_refl _) _⟩
  ·have hw:isW n=true:=by simp[isW,hi]
   rw[hw];clear hw;go_enter Tryz.func195,Tryz.ntmps195;go_wp2_with (first|(go_at_call 168;refine (cK _ _ b1 b2).mono ?_;rintro e w' ⟨rfl,rfl⟩)|(go_at_call 182;refine (bt _ _ b1 b2).mono ?_;rintro e w' ⟨rfl,rfl⟩)|go_in);refine wp_loop_rounds 2 ?_;rw[rounds_succ];go_wp2_with (first|(go_at_call 168;refine (cK _ _ b1 b2).mono ?_;rintro e w' ⟨rfl,rfl⟩)|(go_at_call 182;refine (bt _ _ b1 b2).mono ?_;rintro e w' ⟨rfl,rfl⟩)|go_in);rw[rounds_succ];go_wp2_with (first|(go_at_call 168;refine (cK _ _ b1 b2).mono ?_;rintro e w' ⟨rfl,rfl⟩)|(go_at_call 182;refine (bt _ _ b1 b2).mono ?_;rintro e w' ⟨rfl,rfl⟩)|go_in);go_ret;exact⟨rfl,by repeat (first|exact Grown.refl _|apply Grown.drew|apply Grown.alloc),(Below.refl _ _).alloc (Nat.le_refl _) _⟩
 ·have hw:isW n=true:=by simp[isW,h2]
  rw[hw];clear hw;go_enter Tryz.func195,Tryz.ntmps195;go_wp2_with (first|(go_at_call 168;refine (cK _ _ b1 b2).mono ?_;rintro e w' ⟨rfl,rfl⟩)|(go_at_call 182;refine (bt _ _ b1 b2).mono ?_;rintro e w' ⟨rfl,rfl⟩)|go_in);refine wp_loop_rounds 1 ?_;rw[rounds_succ];go_wp2_with (first|(go_at_call 168;refine (cK _ _ b1 b2).mono ?_;rintro e w' ⟨rfl,rfl⟩)|(go_at_call 182;refine (bt _ _ b1 b2).mono ?_;rintro e w' ⟨rfl,rfl⟩)|go_in);go_ret;exact⟨rfl,by repeat (first|exact Grown.refl _|apply Grown.drew|apply Grown.alloc),(Below.refl _ _).alloc (Nat.le_refl _) _⟩
end Go.Proofs.YtocidankimefpaaGreatDoor.words
