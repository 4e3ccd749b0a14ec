/-
  Bitwise operations on uint8, uint16, uint32 at numbers that fit; masks of int at any number. Plain, of no program.
-/
import Derived.WalkKit
namespace Go.Proofs.YteiajngfeiemkabDoor
open Go.RowKit
namespace Bit
theorem ofIntNat (n a : Nat) (h : a < 2 ^ n) : (BitVec.ofInt n (a : Int)).toNat = a := by
  rw [BitVec.ofInt_natCast, BitVec.toNat_ofNat]; exact Nat.mod_eq_of_lt h
theorem xor_u8 (a b : Nat) (ha : a < 256) (hb : b < 256) : bits .xor .u8 (a : Int) (b : Int) = ((a ^^^ b : Nat) : Int) := by
  have hx : a ^^^ b < 2 ^ 8 := Nat.xor_lt_two_pow ha hb
  show IntKind.u8.wrap ((BitVec.ofInt 8 (a : Int) ^^^ BitVec.ofInt 8 (b : Int)).toNat : Int) = _
  rw [BitVec.toNat_xor, ofIntNat 8 a ha, ofIntNat 8 b hb, IntKind.wrap_u8]
  omega
theorem xor_u16 (a b : Nat) (ha : a < 65536) (hb : b < 65536) : bits .xor .u16 (a : Int) (b : Int) = ((a ^^^ b : Nat) : Int) := by
  have hx : a ^^^ b < 2 ^ 16 := Nat.xor_lt_two_pow ha hb
  show IntKind.u16.wrap ((BitVec.ofInt 16 (a : Int) ^^^ BitVec.ofInt 16 (b : Int)).toNat : Int) = _
  rw [BitVec.toNat_xor, ofIntNat 16 a ha, ofIntNat 16 b hb, IntKind.wrap_u16]
  omega
theorem or_u16 (a b : Nat) (ha : a < 65536) (hb : b < 65536) : bits .or .u16 (a : Int) (b : Int) = ((a ||| b : Nat) : Int) := by
  have hx : a ||| b < 2 ^ 16 := Nat.or_lt_two_pow ha hb
  show IntKind.u16.wrap ((BitVec.ofInt 16 (a : Int) ||| BitVec.ofInt 16 (b : Int)).toNat : Int) = _
  rw [BitVec.toNat_or, ofIntNat 16 a ha, ofIntNat 16 b hb, IntKind.wrap_u16]
  omega
theorem xor_u32 (a b : Nat) (ha : a < 4294967296) (hb : b < 4294967296) : bits .xor .u32 (a : Int) (b : Int) = ((a ^^^ b : Nat) : Int) := by
  have hx : a ^^^ b < 2 ^ 32 := Nat.xor_lt_two_pow ha hb
  show IntKind.u32.wrap ((BitVec.ofInt 32 (a : Int) ^^^ BitVec.ofInt 32 (b : Int)).toNat : Int) = _
  rw [BitVec.toNat_xor, ofIntNat 32 a ha, ofIntNat 32 b hb, IntKind.wrap_u32]
  omega
theorem and_u32_1 (a : Nat) (ha : a < 4294967296) : bits .and .u32 (a : Int) 1 = ((a % 2 : Nat) : Int) := by
  show IntKind.u32.wrap ((BitVec.ofInt 32 (a : Int) &&& BitVec.ofInt 32 ((1 : Nat) : Int)).toNat : Int) = _
  rw [BitVec.toNat_and, ofIntNat 32 a ha, ofIntNat 32 1 (by decide), Nat.and_one_is_mod, IntKind.wrap_u32]
  omega
theorem ofInt64 (x : Int) : (BitVec.ofInt 64 x).toNat = (x % 18446744073709551616).toNat := by
  rw [BitVec.toNat_ofInt]; rfl
theorem and_i64_mask (x : Int) (k m : Nat) (hk : k ≤ 32) (hm : m + 1 = 2 ^ k) : bits .and .i64 x (m : Int) = x % (2 ^ k : Nat) := by
  have h32 : (2 : Nat) ^ k ≤ 2 ^ 32 := Nat.pow_le_pow_right (by decide) hk
  show IntKind.i64.wrap ((BitVec.ofInt 64 x &&& BitVec.ofInt 64 (m : Int)).toNat : Int) = _
  rw [BitVec.toNat_and, ofInt64, ofIntNat 64 m (by omega), show m = 2 ^ k - 1 by omega, Nat.and_two_pow_sub_one_eq_mod, IntKind.wrap_i64]
  have hp : 0 < 2 ^ k := Nat.two_pow_pos k
  have h1 : (((x % 18446744073709551616).toNat % 2 ^ k : Nat) : Int) = x % (2 ^ k : Nat) := by
    rw [Int.natCast_emod, Int.toNat_of_nonneg (Int.emod_nonneg _ (by decide))]
    apply Int.emod_emod_of_dvd
    have : ((2 ^ k : Nat) : Int) ∣ ((2 ^ 64 : Nat) : Int) := Int.natCast_dvd_natCast.mpr (Nat.pow_dvd_pow 2 (by omega))
    exact this
  have h2 := Nat.mod_lt (x % 18446744073709551616).toNat hp
  rw [h1]
  have h3 : 0 ≤ x % (2 ^ k : Nat) := Int.emod_nonneg _ (by omega)
  have h4 : x % (2 ^ k : Nat) < (2 ^ k : Nat) := Int.emod_lt_of_pos _ (by omega)
  omega
theorem and_i64_255 (x : Int) : bits .and .i64 x 255 = x % 256 := and_i64_mask x 8 255 (by decide) (by decide)
theorem and_i64_65535 (x : Int) : bits .and .i64 x 65535 = x % 65536 := and_i64_mask x 16 65535 (by decide) (by decide)
theorem xor_i64 (a b : Nat) (ha : a < 4294967296) (hb : b < 4294967296) : bits .xor .i64 (a : Int) (b : Int) = ((a ^^^ b : Nat) : Int) := by
  have hx : a ^^^ b < 2 ^ 32 := Nat.xor_lt_two_pow ha hb
  show IntKind.i64.wrap ((BitVec.ofInt 64 (a : Int) ^^^ BitVec.ofInt 64 (b : Int)).toNat : Int) = _
  rw [BitVec.toNat_xor, ofIntNat 64 a (by omega), ofIntNat 64 b (by omega), IntKind.wrap_i64]
  omega
theorem or_i64 (a b : Nat) (ha : a < 4294967296) (hb : b < 4294967296) : bits .or .i64 (a : Int) (b : Int) = ((a ||| b : Nat) : Int) := by
  have hx : a ||| b < 2 ^ 32 := Nat.or_lt_two_pow ha hb
  show IntKind.i64.wrap ((BitVec.ofInt 64 (a : Int) ||| BitVec.ofInt 64 (b : Int)).toNat : Int) = _
  rw [BitVec.toNat_or, ofIntNat 64 a (by omega), ofIntNat 64 b (by omega), IntKind.wrap_i64]
  omega
/-- an even number and a bit, put together -/
theorem or_bit (a b : Nat) (hb : b < 2) : a * 2 ||| b = a * 2 + b := by
  have := Nat.shiftLeft_add_eq_or_of_lt (i := 1) hb a
  rw [Nat.shiftLeft_eq] at this
  exact this.symm
end Bit
end Go.Proofs.YteiajngfeiemkabDoor
