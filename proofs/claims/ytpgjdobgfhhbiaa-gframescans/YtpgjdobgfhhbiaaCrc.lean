/-
  Walks of layer 2: turnByte, More, Crc, Xor and the document's.
-/
import Derived.Test.YtpgjdobgfhhbiaaProg
import Derived.Test.YtpgjdobgfhhbiaaMathK
import Derived.Test.YtpgjdobgfhhbiaaBits2
import Derived.WalkKit
namespace Go.Proofs.Ytpgjdobgfhhbiaa
open Go.RowKit
namespace Chk
theorem bit_odd {x : Nat} (h : x < 4294967296) (ho : x % 2 = 1) : bits .xor .u32 ((x : Int) / 2) 3988292384 = (crcBit x : Int) := by
  have e := Bit.xor_u32 (x / 2) 3988292384 (by omega) (by decide)
  unfold crcBit
  rw [if_pos ho]
  exact e
theorem bit_even {x : Nat} (he : x % 2 = 0) : (x : Int) / 2 = (crcBit x : Int) := by
  unfold crcBit
  rw [if_neg (by omega), Nat.xor_zero]
  omega
theorem and_odd {x : Nat} (h : x < 4294967296) (ho : x % 2 = 1) : bits .and .u32 (x : Int) 1 = 1 := by rw [Bit.and_u32_1 x h, ho]; rfl
theorem and_even {x : Nat} (h : x < 4294967296) (he : x % 2 = 0) : bits .and .u32 (x : Int) 1 = 0 := by rw [Bit.and_u32_1 x h, he]; rfl
theorem take_snoc (s : ByteArray) (k : Nat) (h : k < s.size) : s.data.toList.take (k + 1) = s.data.toList.take k ++ [s[k]] := by
  have hl : k < s.data.toList.length := by simpa using h
  rw [List.take_succ_eq_append_getElem hl]
  congr 1
theorem take_all (s : ByteArray) (k : Nat) (h : s.size ≤ k) : s.data.toList.take k = s.data.toList := List.take_of_length_le (by simpa using h)
end Chk
theorem ret_i {k : IntKind} {a b : Int} (h : a = b) : Ending.returned (.int k a) = .returned (.int k b) := by rw [h]

theorem u32_not (x : Nat) (h : x < 4294967296) : bits .xor .u32 IntKind.u32.max (x : Int) = ((4294967295 ^^^ x : Nat) : Int) := Bit.xor_u32 4294967295 x (by decide) h
theorem u32_not' (x : Nat) (h : x < 4294967296) : bits .xor .u32 (x : Int) 4294967295 = ((4294967295 ^^^ x : Nat) : Int) := by
  rw [Nat.xor_comm]; exact Bit.xor_u32 x 4294967295 h (by decide)
theorem u32_low (x : Int) : IntKind.u32.wrap x = (Chk.low32 x : Int) := by rw [IntKind.wrap_u32]; unfold Chk.low32; omega
theorem u32_i64 (x : Nat) (h : x < 4294967296) : wrap64 (x : Int) = (x : Int) := by unfold wrap64; omega

end Go.Proofs.Ytpgjdobgfhhbiaa
