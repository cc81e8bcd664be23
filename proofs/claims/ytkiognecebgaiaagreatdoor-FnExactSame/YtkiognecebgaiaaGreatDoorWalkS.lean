/-
  Chapter 4 as the specification has it: what a chunk takes.
  Made from the template WalkS.
-/
import Derived.Test.YtkiognecebgaiaaGreatDoorM7
namespace Go.Proofs.YtkiognecebgaiaaGreatDoor.walks
open Go.RowKit rows heads words
set_option linter.unusedVariables false
theorem l2Size_any (k:Int) (w:World) (k0:0≤k) (k1:k≤20) :
    Calls Tryz.prog 168 #[.int .i64 k] w fun e w'=>e = .returned (.int .i64 (sz k))∧w'=w:=by
 rw[sz_of k0 k1]
 go_enter Tryz.func168,Tryz.ntmps168
 go_wp2
 go_ret
 exact⟨rfl,rfl⟩
theorem sAddrOf_is (n:Int) (w:World) :
    Calls Tryz.prog 97 #[.int .i64 n] w fun e w'=>∃x,e = .returned (.tuple #[.int .i64 x,.bool (isA n)])∧w'=w:=by
 cases hi:isA n
 ·exact (sAddrOf_no n w hi).mono fun _ _ h=>⟨_,h⟩
 ·exact (sAddrOf_yes n w hi).mono fun _ _ h=>⟨_,h⟩
theorem l4Chunk_no {w:World} {b off len cap:Nat} {x:Int} {k:Nat} (hl:len≤1048576) (hk:k<len) (hlc:len≤cap) (hcm:cap≤maxLen) (hb:b<w.heap.size) (c0:w.cell? ⟨b,off+k,none⟩=some (.int .i64 x)) (d:ok x=false) :
    Calls Tryz.prog 149 #[.slice (some ⟨b,off,none⟩) len cap,.int .i64 k] w fun e w'=>e = .returned (.int .i64 0)∧Below w.heap.size w w':=by
 unfold maxLen at hcm
 go_enter Tryz.func149,Tryz.ntmps149
 go_wp2_with fail
 refine (sUnpacked_any x w).mono ?_
 rintro e w1 ⟨rfl,B1⟩
 have hb1:=Nat.lt_of_lt_of_le hb B1.size
 rw[d]
 generalize uC x=c
 generalize uH x=g
 generalize uP x=p
 generalize uS x=s
 generalize uF x=f
 generalize uM x=m
 go_wp2
 go_ret
 exact⟨rfl,B1.alloc B1.size _⟩
theorem l4Chunk_marked {w:World} {b off len cap:Nat} {x:Int} {k:Nat} (hl:len≤1048576) (hk:k<len) (hlc:len≤cap) (hcm:cap≤maxLen) (hb:b<w.heap.size) (c0:w.cell? ⟨b,off+k,none⟩=some (.int .i64 x)) (d:ok x=true) (dm:uM x=true) :
    Calls Tryz.prog 149 #[.slice (some ⟨b,off,none⟩) len cap,.int .i64 k] w fun e w'=>e = .returned (.int .i64 0)∧Below w.heap.size w w':=by
 unfold maxLen at hcm
 go_enter Tryz.func149,Tryz.ntmps149
 go_wp2_with fail
 refine (sUnpacked_any x w).mono ?_
 rintro e w1 ⟨rfl,B1⟩
 have hb1:=Nat.lt_of_lt_of_le hb B1.size
 rw[d,dm]
 generalize uC x=c
 generalize uH x=g
 generalize uP x=p
 generalize uS x=s
 generalize uF x=f
 go_wp2
 go_ret
 exact⟨rfl,B1.alloc B1.size _⟩
theorem l4Chunk_free_end {w:World} {b off len cap:Nat} {x:Int} {k:Nat} (hl:len≤1048576) (hk:k<len) (hlc:len≤cap) (hcm:cap≤maxLen) (hb:b<w.heap.size) (c0:w.cell? ⟨b,off+k,none⟩=some (.int .i64 x)) (d:ok x=true) (dm:uM x=false) (df:uF x=6) (k1:¬k+1<len) :
    Calls Tryz.prog 149 #[.slice (some ⟨b,off,none⟩) len cap,.int .i64 k] w fun e w'=>e = .returned (.int .i64 0)∧Below w.heap.size w w':=by
 obtain⟨s0,s1⟩:=uS_bounds x
 obtain⟨z0,z1,_⟩:=sz_bounds s0 s1
 obtain⟨z,hz⟩:∃z,sz (uS x)=z:=⟨_,rfl⟩
 rw[hz]at z0 z1
 have k2:(k:Int)+1 ≥ len:=by omega
 unfold maxLen at hcm
 go_enter Tryz.func149,Tryz.ntmps149
 go_wp2_with fail
 refine (sUnpacked_any x w).mono ?_
 rintro e w1 ⟨rfl,B1⟩
 have hb1:=Nat.lt_of_lt_of_le hb B1.size
 rw[d,dm,df]
 generalize uC x=c
 generalize uH x=g
 generalize uP x=p
 generalize uS x=s at *
 go_wp2_with (go_at_call 168;refine (l2Size_any _ _ s0 s1).mono ?_;rintro e w2 ⟨rfl,hw2⟩;rw[hw2,hz];clear hw2 w2)
 go_ret
 exact⟨rfl,B1.alloc B1.size _⟩
theorem l4Chunk_free_low {w:World} {b off len cap:Nat} {x:Int} {k:Nat} (hl:len≤1048576) (hk:k<len) (hlc:len≤cap) (hcm:cap≤maxLen) (hb:b<w.heap.size) (c0:w.cell? ⟨b,off+k,none⟩=some (.int .i64 x)) {y:Int} (k1:k+1<len) (c1:w.cell? ⟨b,off+(k+1),none⟩=some (.int .i64 y)) (d:ok x=true) (dm:uM x=false) (df:uF x=6) (y1:y<2) :
    Calls Tryz.prog 149 #[.slice (some ⟨b,off,none⟩) len cap,.int .i64 k] w fun e w'=>e = .returned (.int .i64 0)∧Below w.heap.size w w':=by
 obtain⟨s0,s1⟩:=uS_bounds x
 obtain⟨z0,z1,_⟩:=sz_bounds s0 s1
 obtain⟨z,hz⟩:∃z,sz (uS x)=z:=⟨_,rfl⟩
 rw[hz]at z0 z1
 have k2:¬(k:Int)+1 ≥ len:=by omega
 unfold maxLen at hcm
 go_enter Tryz.func149,Tryz.ntmps149
 go_wp2_with fail
 refine (sUnpacked_any x w).mono ?_
 rintro e w1 ⟨rfl,B1⟩
 have hb1:=Nat.lt_of_lt_of_le hb B1.size
 rw[d,dm,df]
 generalize uC x=c
 generalize uH x=g
 generalize uP x=p
 have c2:=(B1.cell (p:=⟨b,off+(k+1),none⟩) hb).trans c1
 generalize uS x=s at *
 go_wp2_with (go_at_call 168;refine (l2Size_any _ _ s0 s1).mono ?_;rintro e w2 ⟨rfl,hw2⟩;rw[hw2,hz];clear hw2 w2)
 go_ret
 exact⟨rfl,B1.alloc B1.size _⟩
theorem l4Chunk_free_high {w:World} {b off len cap:Nat} {x:Int} {k:Nat} (hl:len≤1048576) (hk:k<len) (hlc:len≤cap) (hcm:cap≤maxLen) (hb:b<w.heap.size) (c0:w.cell? ⟨b,off+k,none⟩=some (.int .i64 x)) {y:Int} (k1:k+1<len) (c1:w.cell? ⟨b,off+(k+1),none⟩=some (.int .i64 y)) (d:ok x=true) (dm:uM x=false) (df:uF x=6) (y1:¬y<2) (y2:y > len) :
    Calls Tryz.prog 149 #[.slice (some ⟨b,off,none⟩) len cap,.int .i64 k] w fun e w'=>e = .returned (.int .i64 0)∧Below w.heap.size w w':=by
 obtain⟨s0,s1⟩:=uS_bounds x
 obtain⟨z0,z1,_⟩:=sz_bounds s0 s1
 obtain⟨z,hz⟩:∃z,sz (uS x)=z:=⟨_,rfl⟩
 rw[hz]at z0 z1
 have k2:¬(k:Int)+1 ≥ len:=by omega
 unfold maxLen at hcm
 go_enter Tryz.func149,Tryz.ntmps149
 go_wp2_with fail
 refine (sUnpacked_any x w).mono ?_
 rintro e w1 ⟨rfl,B1⟩
 have hb1:=Nat.lt_of_lt_of_le hb B1.size
 rw[d,dm,df]
 generalize uC x=c
 generalize uH x=g
 generalize uP x=p
 have c2:=(B1.cell (p:=⟨b,off+(k+1),none⟩) hb).trans c1
 generalize uS x=s at *
 go_wp2_with (go_at_call 168;refine (l2Size_any _ _ s0 s1).mono ?_;rintro e w2 ⟨rfl,hw2⟩;rw[hw2,hz];clear hw2 w2)
 go_ret
 exact⟨rfl,B1.alloc B1.size _⟩
theorem l4Chunk_free_odd {w:World} {b off len cap:Nat} {x:Int} {k:Nat} (hl:len≤1048576) (hk:k<len) (hlc:len≤cap) (hcm:cap≤maxLen) (hb:b<w.heap.size) (c0:w.cell? ⟨b,off+k,none⟩=some (.int .i64 x)) {y:Int} (k1:k+1<len) (c1:w.cell? ⟨b,off+(k+1),none⟩=some (.int .i64 y)) (d:ok x=true) (dm:uM x=false) (df:uF x=6) (y1:¬y<2) (y2:¬y > len) (y3:¬y % 2=0) :
    Calls Tryz.prog 149 #[.slice (some ⟨b,off,none⟩) len cap,.int .i64 k] w fun e w'=>e = .returned (.int .i64 0)∧Below w.heap.size w w':=by
 obtain⟨s0,s1⟩:=uS_bounds x
 obtain⟨z0,z1,_⟩:=sz_bounds s0 s1
 obtain⟨z,hz⟩:∃z,sz (uS x)=z:=⟨_,rfl⟩
 rw[hz]at z0 z1
 have k2:¬(k:Int)+1 ≥ len:=by omega
 have y4:(y % 2 != 0)=true:=by simpa using y3
 unfold maxLen at hcm
 go_enter Tryz.func149,Tryz.ntmps149
 go_wp2_with fail
 refine (sUnpacked_any x w).mono ?_
 rintro e w1 ⟨rfl,B1⟩
 have hb1:=Nat.lt_of_lt_of_le hb B1.size
 rw[d,dm,df]
 generalize uC x=c
 generalize uH x=g
 generalize uP x=p
 have c2:=(B1.cell (p:=⟨b,off+(k+1),none⟩) hb).trans c1
 generalize uS x=s at *
 go_wp2_with (go_at_call 168;refine (l2Size_any _ _ s0 s1).mono ?_;rintro e w2 ⟨rfl,hw2⟩;rw[hw2,hz];clear hw2 w2)
 go_ret
 exact⟨rfl,B1.alloc B1.size _⟩
theorem l4Chunk_free_out {w:World} {b off len cap:Nat} {x:Int} {k:Nat} (hl:len≤1048576) (hk:k<len) (hlc:len≤cap) (hcm:cap≤maxLen) (hb:b<w.heap.size) (c0:w.cell? ⟨b,off+k,none⟩=some (.int .i64 x)) {y:Int} (k1:k+1<len) (c1:w.cell? ⟨b,off+(k+1),none⟩=some (.int .i64 y)) (d:ok x=true) (dm:uM x=false) (df:uF x=6) (y1:¬y<2) (y2:¬y > len) (y3:y % 2=0) (y4:(k:Int)+y > len) :
    Calls Tryz.prog 149 #[.slice (some ⟨b,off,none⟩) len cap,.int .i64 k] w fun e w'=>e = .returned (.int .i64 0)∧Below w.heap.size w w':=by
 obtain⟨s0,s1⟩:=uS_bounds x
 obtain⟨z0,z1,_⟩:=sz_bounds s0 s1
 obtain⟨z,hz⟩:∃z,sz (uS x)=z:=⟨_,rfl⟩
 rw[hz]at z0 z1
 have k2:¬(k:Int)+1 ≥ len:=by omega
 unfold maxLen at hcm
 go_enter Tryz.func149,Tryz.ntmps149
 go_wp2_with fail
 refine (sUnpacked_any x w).mono ?_
 rintro e w1 ⟨rfl,B1⟩
 have hb1:=Nat.lt_of_lt_of_le hb B1.size
 rw[d,dm,df]
 generalize uC x=c
 generalize uH x=g
 generalize uP x=p
 have c2:=(B1.cell (p:=⟨b,off+(k+1),none⟩) hb).trans c1
 generalize uS x=s at *
 go_wp2_with (go_at_call 168;refine (l2Size_any _ _ s0 s1).mono ?_;rintro e w2 ⟨rfl,hw2⟩;rw[hw2,hz];clear hw2 w2)
 go_ret
 exact⟨rfl,B1.alloc B1.size _⟩
theorem l4Chunk_free_yes {w:World} {b off len cap:Nat} {x:Int} {k:Nat} (hl:len≤1048576) (hk:k<len) (hlc:len≤cap) (hcm:cap≤maxLen) (hb:b<w.heap.size) (c0:w.cell? ⟨b,off+k,none⟩=some (.int .i64 x)) {y:Int} (k1:k+1<len) (c1:w.cell? ⟨b,off+(k+1),none⟩=some (.int .i64 y)) (d:ok x=true) (dm:uM x=false) (df:uF x=6) (y1:¬y<2) (y2:¬y > len) (y3:y % 2=0) (y4:¬(k:Int)+y > len) :
    Calls Tryz.prog 149 #[.slice (some ⟨b,off,none⟩) len cap,.int .i64 k] w fun e w'=>e = .returned (.int .i64 y)∧Below w.heap.size w w':=by
 obtain⟨s0,s1⟩:=uS_bounds x
 obtain⟨z0,z1,_⟩:=sz_bounds s0 s1
 obtain⟨z,hz⟩:∃z,sz (uS x)=z:=⟨_,rfl⟩
 rw[hz]at z0 z1
 have k2:¬(k:Int)+1 ≥ len:=by omega
 unfold maxLen at hcm
 go_enter Tryz.func149,Tryz.ntmps149
 go_wp2_with fail
 refine (sUnpacked_any x w).mono ?_
 rintro e w1 ⟨rfl,B1⟩
 have hb1:=Nat.lt_of_lt_of_le hb B1.size
 rw[d,dm,df]
 generalize uC x=c
 generalize uH x=g
 generalize uP x=p
 have c2:=(B1.cell (p:=⟨b,off+(k+1),none⟩) hb).trans c1
 generalize uS x=s at *
 go_wp2_with (go_at_call 168;refine (l2Size_any _ _ s0 s1).mono ?_;rintro e w2 ⟨rfl,hw2⟩;rw[hw2,hz];clear hw2 w2)
 go_ret
 exact⟨rfl,B1.alloc B1.size _⟩
theorem l4Chunk_out {w:World} {b off len cap:Nat} {x:Int} {k:Nat} (hl:len≤1048576) (hk:k<len) (hlc:len≤cap) (hcm:cap≤maxLen) (hb:b<w.heap.size) (c0:w.cell? ⟨b,off+k,none⟩=some (.int .i64 x)) (d:ok x=true) (dm:uM x=false) (df:¬uF x=6) (y4:(k:Int)+sz (uS x) > len) :
    Calls Tryz.prog 149 #[.slice (some ⟨b,off,none⟩) len cap,.int .i64 k] w fun e w'=>e = .returned (.int .i64 0)∧Below w.heap.size w w':=by
 obtain⟨s0,s1⟩:=uS_bounds x
 obtain⟨z0,z1,_⟩:=sz_bounds s0 s1
 obtain⟨z,hz⟩:∃z,sz (uS x)=z:=⟨_,rfl⟩
 rw[hz]at z0 z1
 rw[hz]at y4
 unfold maxLen at hcm
 go_enter Tryz.func149,Tryz.ntmps149
 go_wp2_with fail
 refine (sUnpacked_any x w).mono ?_
 rintro e w1 ⟨rfl,B1⟩
 have hb1:=Nat.lt_of_lt_of_le hb B1.size
 rw[d,dm]
 generalize uC x=c
 generalize uH x=g
 generalize uP x=p
 have df':(uF x==6)=false:=by simpa using df
 generalize uS x=s at *
 generalize uF x=f at *
 go_wp2_with (go_at_call 168;refine (l2Size_any _ _ s0 s1).mono ?_;rintro e w2 ⟨rfl,hw2⟩;rw[hw2,hz];clear hw2 w2)
 go_ret
 exact⟨rfl,B1.alloc B1.size _⟩
theorem l4Chunk_plain {w:World} {b off len cap:Nat} {x:Int} {k:Nat} (hl:len≤1048576) (hk:k<len) (hlc:len≤cap) (hcm:cap≤maxLen) (hb:b<w.heap.size) (c0:w.cell? ⟨b,off+k,none⟩=some (.int .i64 x)) (d:ok x=true) (dm:uM x=false) (df:¬uF x=6) (d7:¬uF x=7) (y4:¬(k:Int)+sz (uS x) > len) :
    Calls Tryz.prog 149 #[.slice (some ⟨b,off,none⟩) len cap,.int .i64 k] w fun e w'=>e = .returned (.int .i64 (sz (uS x)))∧Below w.heap.size w w':=by
 obtain⟨s0,s1⟩:=uS_bounds x
 obtain⟨z0,z1,_⟩:=sz_bounds s0 s1
 obtain⟨z,hz⟩:∃z,sz (uS x)=z:=⟨_,rfl⟩
 rw[hz]at z0 z1
 rw[hz]at y4 ⊢
 unfold maxLen at hcm
 go_enter Tryz.func149,Tryz.ntmps149
 go_wp2_with fail
 refine (sUnpacked_any x w).mono ?_
 rintro e w1 ⟨rfl,B1⟩
 have hb1:=Nat.lt_of_lt_of_le hb B1.size
 rw[d,dm]
 generalize uC x=c
 generalize uH x=g
 generalize uP x=p
 have d7':(uF x==7)=false:=by simpa using d7
 have df':(uF x==6)=false:=by simpa using df
 generalize uS x=s at *
 generalize uF x=f at *
 go_wp2_with (go_at_call 168;refine (l2Size_any _ _ s0 s1).mono ?_;rintro e w2 ⟨rfl,hw2⟩;rw[hw2,hz];clear hw2 w2)
 go_ret
 exact⟨rfl,B1.alloc B1.size _⟩
theorem l4Chunk_note_no {w:World} {b off len cap:Nat} {x:Int} {k:Nat} (hl:len≤1048576) (hk:k<len) (hlc:len≤cap) (hcm:cap≤maxLen) (hb:b<w.heap.size) (c0:w.cell? ⟨b,off+k,none⟩=some (.int .i64 x)) {y:Int} (k1:k+1<len) (c1:w.cell? ⟨b,off+(k+1),none⟩=some (.int .i64 y)) (d:ok x=true) (dm:uM x=false) (df:uF x=7) (y4:¬(k:Int)+sz (uS x) > len) (da:isA y=false) :
    Calls Tryz.prog 149 #[.slice (some ⟨b,off,none⟩) len cap,.int .i64 k] w fun e w'=>e = .returned (.int .i64 0)∧Below w.heap.size w w':=by
 obtain⟨s0,s1⟩:=uS_bounds x
 obtain⟨z0,z1,_⟩:=sz_bounds s0 s1
 obtain⟨z,hz⟩:∃z,sz (uS x)=z:=⟨_,rfl⟩
 rw[hz]at z0 z1
 rw[hz]at y4
 unfold maxLen at hcm
 go_enter Tryz.func149,Tryz.ntmps149
 go_wp2_with fail
 refine (sUnpacked_any x w).mono ?_
 rintro e w1 ⟨rfl,B1⟩
 have hb1:=Nat.lt_of_lt_of_le hb B1.size
 rw[d,dm,df]
 generalize uC x=c
 generalize uH x=g
 generalize uP x=p
 have c2:=(B1.cell (p:=⟨b,off+(k+1),none⟩) hb).trans c1
 generalize uS x=s at *
 go_wp2_with (first|(go_at_call 168;refine (l2Size_any _ _ s0 s1).mono ?_;rintro e w2 ⟨rfl,hw2⟩;rw[hw2,hz];clear hw2 w2)|(go_at_call 97;refine (sAddrOf_is _ _).mono ?_;rintro e w2 ⟨ad,rfl,hw2⟩;rw[hw2,da];clear hw2 w2))
 go_ret
 exact⟨rfl,B1.alloc B1.size _⟩
theorem l4Chunk_note_yes {w:World} {b off len cap:Nat} {x:Int} {k:Nat} (hl:len≤1048576) (hk:k<len) (hlc:len≤cap) (hcm:cap≤maxLen) (hb:b<w.heap.size) (c0:w.cell? ⟨b,off+k,none⟩=some (.int .i64 x)) {y:Int} (k1:k+1<len) (c1:w.cell? ⟨b,off+(k+1),none⟩=some (.int .i64 y)) (d:ok x=true) (dm:uM x=false) (df:uF x=7) (y4:¬(k:Int)+sz (uS x) > len) (da:isA y=true) :
    Calls Tryz.prog 149 #[.slice (some ⟨b,off,none⟩) len cap,.int .i64 k] w fun e w'=>e = .returned (.int .i64 (sz (uS x)))∧Below w.heap.size w w':=by
 obtain⟨s0,s1⟩:=uS_bounds x
 obtain⟨z0,z1,_⟩:=sz_bounds s0 s1
 obtain⟨z,hz⟩:∃z,sz (uS x)=z:=⟨_,rfl⟩
 rw[hz]at z0 z1
 rw[hz]at y4 ⊢
 unfold maxLen at hcm
 go_enter Tryz.func149,Tryz.ntmps149
 go_wp2_with fail
 refine (sUnpacked_any x w).mono ?_
 rintro e w1 ⟨rfl,B1⟩
 have hb1:=Nat.lt_of_lt_of_le hb B1.size
 rw[d,dm,df]
 generalize uC x=c
 generalize uH x=g
 generalize uP x=p
 have c2:=(B1.cell (p:=⟨b,off+(k+1),none⟩) hb).trans c1
 generalize uS x=s at *
 go_wp2_with (first|(go_at_call 168;refine (l2Size_any _ _ s0 s1).mono ?_;rintro e w2 ⟨rfl,hw2⟩;rw[hw2,hz];clear hw2 w2)|(go_at_call 97;refine (sAddrOf_is _ _).mono ?_;rintro e w2 ⟨ad,rfl,hw2⟩;rw[hw2,da];clear hw2 w2))
 go_ret
 exact⟨rfl,B1.alloc B1.size _⟩
theorem l4Chunk_any {w:World} {v:Value} {xs:List Int} (h:IntsAt w v xs) (hl:xs.length≤1048576) (k:Nat) (hk:k<xs.length) :
    Calls Tryz.prog 149 #[v,.int .i64 k] w fun e w'=>e = .returned (.int .i64 (chunk xs k))∧Below w.heap.size w w':=by
 obtain⟨a,cap,rfl,hlc,hcm,_,hc⟩:=h
 obtain⟨b,off,rfl,hb,hcc⟩:=hc (by omega)
 have c0:=hcc k hk
 have c1:k+1<xs.length→_:=fun h=>hcc (k+1) h
 obtain⟨s0,s1⟩:=uS_bounds (xs.getD k 0)
 have hz:=sz_bounds s0 s1
 unfold chunk
 generalize xs.getD k 0=x at *
 generalize xs.getD (k+1) 0=y at *
 generalize xs.length=len at *
 cases d:ok x
 ·simp only[Bool.false_and,Bool.false_eq_true,if_false]
  exact l4Chunk_no hl hk hlc hcm hb c0 d
 ·cases dm:uM x
  ·simp only[Bool.true_and,Bool.not_false,if_true]
   by_cases df:uF x=6
   ·rw[if_pos df]
    by_cases k1:k+1<len
    ·have c1:=c1 k1
     by_cases y1:y<2
     ·rw[if_neg (by simp only[freeOk,decide_eq_true_eq];omega)]
      exact l4Chunk_free_low hl hk hlc hcm hb c0 k1 c1 d dm df y1
     ·by_cases y2:y > len
      ·rw[if_neg (by simp only[freeOk,decide_eq_true_eq];omega)]
       exact l4Chunk_free_high hl hk hlc hcm hb c0 k1 c1 d dm df y1 y2
      ·by_cases y3:y % 2=0
       ·by_cases y4:(k:Int)+y > len
        ·rw[if_neg (by simp only[freeOk,decide_eq_true_eq];omega)]
         exact l4Chunk_free_out hl hk hlc hcm hb c0 k1 c1 d dm df y1 y2 y3 y4
        ·rw[if_pos (by simp only[freeOk,decide_eq_true_eq];omega)]
         exact l4Chunk_free_yes hl hk hlc hcm hb c0 k1 c1 d dm df y1 y2 y3 y4
       ·rw[if_neg (by simp only[freeOk,decide_eq_true_eq];omega)]
        exact l4Chunk_free_odd hl hk hlc hcm hb c0 k1 c1 d dm df y1 y2 y3
    ·rw[if_neg (fun h=>k1 h.1)]
     exact l4Chunk_free_end hl hk hlc hcm hb c0 d dm df k1
   ·rw[if_neg df]
    by_cases y4:(k:Int)+sz (uS x) > len
    ·rw[if_neg (fun h=>by omega)]
     exact l4Chunk_out hl hk hlc hcm hb c0 d dm df y4
    ·by_cases d7:uF x=7
     ·have k1:k+1<len:=by omega
      cases da:isA y
      ·rw[if_neg (fun h=>by simpa using h.2 d7)]
       exact l4Chunk_note_no hl hk hlc hcm hb c0 k1 (c1 k1) d dm d7 y4 da
      ·rw[if_pos ⟨by omega,fun _=>rfl⟩]
       exact l4Chunk_note_yes hl hk hlc hcm hb c0 k1 (c1 k1) d dm d7 y4 da
     ·rw[if_pos ⟨by omega,fun h=>absurd h d7⟩]
      exact l4Chunk_plain hl hk hlc hcm hb c0 d dm df d7 y4
  ·simp only[Bool.true_and,Bool.not_true,Bool.false_eq_true,if_false]
   exact l4Chunk_marked hl hk hlc hcm hb c0 d dm
end Go.Proofs.YtkiognecebgaiaaGreatDoor.walks
