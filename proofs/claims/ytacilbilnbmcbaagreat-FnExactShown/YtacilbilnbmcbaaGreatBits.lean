/-
  Plain facts on the low two bits of a 64-bit number: a mask by 3 is the rest by 4; 4n with bit 1 laid in is 4n + 1; with 0 laid in, itself.
  Made from the template Bits.
-/
import Derived.Laws.BitsLemmas
import Derived.Laws.BitsAllLaws
namespace Go.Proofs.YtacilbilnbmcbaaGreat
theorem and3 (n : Int) : bits .and .i64 n 3 = n % 4 := by
  have h3 : (BitVec.ofInt 64 3).toNat = 2 ^ 2 - 1 := by decide
  have key : (BitVec.ofInt 64 n &&& BitVec.ofInt 64 3).toNat = (n % ((2 ^ 64 : Nat) : Int)).toNat % 2 ^ 2 := by
    rw [BitVec.toNat_and, BitVec.toNat_ofInt, h3, Nat.and_two_pow_sub_one_eq_mod]
  show IntKind.i64.wrap ((BitVec.ofInt 64 n &&& BitVec.ofInt 64 3).toNat : Nat) = n % 4
  rw [key, IntKind.wrap_i64]
  omega

theorem or1 (n x : Int) (e : x = n * 4) (h0 : -1000000 ≤ n) (h1 : n ≤ 1000000) : bits .or .i64 x 1 = n * 4 + 1 := by
  subst e
  have h3 : (BitVec.ofInt 64 1).toNat = 1 := by decide
  have hj : (((n * 4) % ((2 ^ 64 : Nat) : Int)).toNat ||| 1) = ((n * 4) % ((2 ^ 64 : Nat) : Int)).toNat + 1 := nat_join 2 _ 1 (by omega) (by decide)
  have key : (BitVec.ofInt 64 (n * 4) ||| BitVec.ofInt 64 1).toNat = ((n * 4) % ((2 ^ 64 : Nat) : Int)).toNat + 1 := by
    rw [BitVec.toNat_or, BitVec.toNat_ofInt, h3, hj]
  show IntKind.i64.wrap ((BitVec.ofInt 64 (n * 4) ||| BitVec.ofInt 64 1).toNat : Nat) = n * 4 + 1
  rw [key, IntKind.wrap_i64]
  omega

theorem or0 (x : Int) (h0 : -1000000 ≤ x) (h1 : x ≤ 1000000) : bits .or .i64 x 0 = x := by
  have h3 : (BitVec.ofInt 64 0).toNat = 0 := by decide
  have key : (BitVec.ofInt 64 x ||| BitVec.ofInt 64 0).toNat = (x % ((2 ^ 64 : Nat) : Int)).toNat := by
    rw [BitVec.toNat_or, BitVec.toNat_ofInt, h3, Nat.or_zero]
  show IntKind.i64.wrap ((BitVec.ofInt 64 x ||| BitVec.ofInt 64 0).toNat : Nat) = x
  rw [key, IntKind.wrap_i64]
  omega
theorem tdiv4 (n : Int) (h : n % 4 = 1) : (n - 1).tdiv 4 = n / 4 := by
  rw [Int.tdiv_eq_ediv_of_dvd (by omega)]
  omega
end Go.Proofs.YtacilbilnbmcbaaGreat
