/-
  WordOk, the program's and the specification's: one contract each.
  Made from the template WordOk.
-/
import Derived.Test.YtkiognecebgaiaaGreatDoorWords
import Derived.Below
namespace Go.Proofs.YtkiognecebgaiaaGreatDoor.words
open Go.RowKit
def isW (n:Int):Bool:=n==2 || isI n || isA n
theorem sWordOk_any (n:Int) (w:World) :
    Calls Tryz.prog 148 #[.int .i64 n] w fun e w'=>e = .returned (.bool (isW n))∧w'=w:=by
 cases hi:isI n
 ·cases ha:isA n
  ·cases h2:(n==2)
   all_goals
    go_enter Tryz.func148,Tryz.ntmps148
    go_wp2_with (first|(go_at_call 131;refine (sIntOf_no _ _ hi).mono ?_;rintro e w' ⟨rfl,rfl⟩)|(go_at_call 97;refine (sAddrOf_no _ _ ha).mono ?_;rintro e w' ⟨rfl,rfl⟩))
    all_goals go_ret
    all_goals exact⟨by simp[isW,hi,ha,h2],rfl⟩
  ·cases h2:(n==2)
   all_goals
    go_enter Tryz.func148,Tryz.ntmps148
    go_wp2_with (first|(go_at_call 131;refine (sIntOf_no _ _ hi).mono ?_;rintro e w' ⟨rfl,rfl⟩)|(go_at_call 97;refine (sAddrOf_yes _ _ ha).mono ?_;rintro e w' ⟨rfl,rfl⟩))
    all_goals go_ret
    all_goals exact⟨by simp[isW,hi,ha,h2],rfl⟩
 ·cases ha:isA n
  ·cases h2:(n==2)
   all_goals
    go_enter Tryz.func148,Tryz.ntmps148
    go_wp2_with (first|(go_at_call 131;refine (sIntOf_yes _ _ hi).mono ?_;rintro e w' ⟨rfl,rfl⟩)|(go_at_call 97;refine (sAddrOf_no _ _ ha).mono ?_;rintro e w' ⟨rfl,rfl⟩))
    all_goals go_ret
    all_goals exact⟨by simp[isW,hi,ha,h2],rfl⟩
  ·have h1:=isI_true hi
   have h3:=isA_true ha
   omega
set_option maxHeartbeats 1600000 in
theorem wordOk_any (n:Int) (w:World) (b1 : -9223372036854775808≤n) (b2:n≤9223372036854775807) :
    Calls Tryz.prog 210 #[.int .i64 n] w fun e w'=>e = .returned (.bool (isW n))∧Grown w w'∧Below w.heap.size w w':=by
 cases h2:(n==2)
 ·cases hi:isI n
  ·cases ha:isA n
   ·have hw:isW n=false:=by simp[isW,h2,hi,ha]
    rw[hw]
    clear hw
    go_enter Tryz.func210,Tryz.ntmps210
    go_wp2_with (first|(go_at_call 201;refine (isInt_any _ _ b1 b2).mono ?_;rintro e w' ⟨rfl,rfl⟩)|(go_at_call 198;refine (isAddr_any _ _ b1 b2).mono ?_;rintro e w' ⟨rfl,rfl⟩)|go_in)
    refine wp_loop_rounds 4 ?_
    rw[rounds_succ]
    go_wp2_with (first|(go_at_call 201;refine (isInt_any _ _ b1 b2).mono ?_;rintro e w' ⟨rfl,rfl⟩)|(go_at_call 198;refine (isAddr_any _ _ b1 b2).mono ?_;rintro e w' ⟨rfl,rfl⟩)|go_in)
    rw[rounds_succ]
    go_wp2_with (first|(go_at_call 201;refine (isInt_any _ _ b1 b2).mono ?_;rintro e w' ⟨rfl,rfl⟩)|(go_at_call 198;refine (isAddr_any _ _ b1 b2).mono ?_;rintro e w' ⟨rfl,rfl⟩)|go_in)
    rw[rounds_succ]
    go_wp2_with (first|(go_at_call 201;refine (isInt_any _ _ b1 b2).mono ?_;rintro e w' ⟨rfl,rfl⟩)|(go_at_call 198;refine (isAddr_any _ _ b1 b2).mono ?_;rintro e w' ⟨rfl,rfl⟩)|go_in)
    rw[rounds_succ]
    go_wp2_with (first|(go_at_call 201;refine (isInt_any _ _ b1 b2).mono ?_;rintro e w' ⟨rfl,rfl⟩)|(go_at_call 198;refine (isAddr_any _ _ b1 b2).mono ?_;rintro e w' ⟨rfl,rfl⟩)|go_in)
    go_ret
    exact⟨rfl,by repeat (first|exact Grown.refl _|apply Grown.drew|apply Grown.alloc),(Below.refl _ _).alloc (Nat.le_refl _) _⟩
   ·have hw:isW n=true:=by simp[isW,ha]
    rw[hw]
    clear hw
    go_enter Tryz.func210,Tryz.ntmps210
    go_wp2_with (first|(go_at_call 201;refine (isInt_any _ _ b1 b2).mono ?_;rintro e w' ⟨rfl,rfl⟩)|(go_at_call 198;refine (isAddr_any _ _ b1 b2).mono ?_;rintro e w' ⟨rfl,rfl⟩)|go_in)
    refine wp_loop_rounds 3 ?_
    rw[rounds_succ]
    go_wp2_with (first|(go_at_call 201;refine (isInt_any _ _ b1 b2).mono ?_;rintro e w' ⟨rfl,rfl⟩)|(go_at_call 198;refine (isAddr_any _ _ b1 b2).mono ?_;rintro e w' ⟨rfl,rfl⟩)|go_in)
    rw[rounds_succ]
    go_wp2_with (first|(go_at_call 201;refine (isInt_any _ _ b1 b2).mono ?_;rintro e w' ⟨rfl,rfl⟩)|(go_at_call 198;refine (isAddr_any _ _ b1 b2).mono ?_;rintro e w' ⟨rfl,rfl⟩)|go_in)
    rw[rounds_succ]
    go_wp2_with (first|(go_at_call 201;refine (isInt_any _ _ b1 b2).mono ?_;rintro e w' ⟨rfl,rfl⟩)|(go_at_call 198;refine (isAddr_any _ _ b1 b2).mono ?_;rintro e w' ⟨rfl,rfl⟩)|go_in)
    go_ret
    exact⟨rfl,by repeat (first|exact Grown.refl _|apply Grown.drew|apply Grown.alloc),(Below.refl _ _).alloc (Nat.le_refl _) _⟩
  ·have hw:isW n=true:=by simp[isW,hi]
   rw[hw]
   clear hw
   go_enter Tryz.func210,Tryz.ntmps210
   go_wp2_with (first|(go_at_call 201;refine (isInt_any _ _ b1 b2).mono ?_;rintro e w' ⟨rfl,rfl⟩)|(go_at_call 198;refine (isAddr_any _ _ b1 b2).mono ?_;rintro e w' ⟨rfl,rfl⟩)|go_in)
   refine wp_loop_rounds 2 ?_
   rw[rounds_succ]
   go_wp2_with (first|(go_at_call 201;refine (isInt_any _ _ b1 b2).mono ?_;rintro e w' ⟨rfl,rfl⟩)|(go_at_call 198;refine (isAddr_any _ _ b1 b2).mono ?_;rintro e w' ⟨rfl,rfl⟩)|go_in)
   rw[rounds_succ]
   go_wp2_with (first|(go_at_call 201;refine (isInt_any _ _ b1 b2).mono ?_;rintro e w' ⟨rfl,rfl⟩)|(go_at_call 198;refine (isAddr_any _ _ b1 b2).mono ?_;rintro e w' ⟨rfl,rfl⟩)|go_in)
   go_ret
   exact⟨rfl,by repeat (first|exact Grown.refl _|apply Grown.drew|apply Grown.alloc),(Below.refl _ _).alloc (Nat.le_refl _) _⟩
 ·have hw:isW n=true:=by simp[isW,h2]
  rw[hw]
  clear hw
  go_enter Tryz.func210,Tryz.ntmps210
  go_wp2_with (first|(go_at_call 201;refine (isInt_any _ _ b1 b2).mono ?_;rintro e w' ⟨rfl,rfl⟩)|(go_at_call 198;refine (isAddr_any _ _ b1 b2).mono ?_;rintro e w' ⟨rfl,rfl⟩)|go_in)
  refine wp_loop_rounds 1 ?_
  rw[rounds_succ]
  go_wp2_with (first|(go_at_call 201;refine (isInt_any _ _ b1 b2).mono ?_;rintro e w' ⟨rfl,rfl⟩)|(go_at_call 198;refine (isAddr_any _ _ b1 b2).mono ?_;rintro e w' ⟨rfl,rfl⟩)|go_in)
  go_ret
  exact⟨rfl,by repeat (first|exact Grown.refl _|apply Grown.drew|apply Grown.alloc),(Below.refl _ _).alloc (Nat.le_refl _) _⟩
end Go.Proofs.YtkiognecebgaiaaGreatDoor.words
