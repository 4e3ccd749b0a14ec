/-
  Walks of layer 2: Crc, Xor and the document's More, Crc, Xor.
-/
import Derived.Test.YtpgjdobgfhhbiaaCrc
namespace Go.Proofs.Ytpgjdobgfhhbiaa
open Go.RowKit

set_option maxHeartbeats 400000 in
theorem xor_any (s : ByteArray) (w : World) (hs : s.size ≤ maxLen) :
    Calls Try.prog 35 #[.string s] w fun e w' => e = .returned (.int .i64 (Chk.xor s.data.toList)) ∧ w' = w := by
  have hml : s.size ≤ 9223372036854775807 := hs
  clear hs
  go_enter Try.func35, Try.ntmps35
  go_wp2
  go_loopw [3, 7] (fun v i wr => ∃ k : Nat, k ≤ s.size ∧ v = .int .u8 (Chk.xor (s.data.toList.take k)) ∧ i = .int .i64 k ∧ wr = w) (fun _ i _ => s.size - (intOf i).toNat)
  case atStart => exact ⟨0, Nat.zero_le _, rfl, rfl, rfl⟩
  case round =>
    obtain ⟨k, hk, rfl, rfl, rfl⟩ := hrel
    have hx := Chk.xor_lt (s.data.toList.take k)
    by_cases hlt : k < s.size
    · have hsn : Hid (Chk.xor (s.data.toList.take (k + 1)) = Chk.xor (s.data.toList.take k) ^^^ s[k].toNat) := by
        show _ = _; rw [Chk.take_snoc s k hlt, Chk.xor_append, Chk.xor_one]
      generalize Chk.xor (s.data.toList.take k) = y at *
      have hX := Bit.xor_u8 y s[k].toNat hx (UInt8.toNat_lt s[k])
      go_wp2
      go_roundw
      case rel => exact ⟨k + 1, by omega, by rw [hsn.out], by go_num, trivial⟩
      case measure => simp [intOf]; omega
    · have hall : Hid (s.data.toList.take k = s.data.toList) := Chk.take_all s k (by omega)
      rw [hall.out] at hx
      have hL := u32_i64 _ (Nat.lt_trans hx (by decide))
      go_wp2
      go_ret
      exact ⟨ret_i (by rw [hall.out, hL]), rfl⟩

set_option maxHeartbeats 400000 in
theorem refXor_any (s : ByteArray) (w : World) (hs : s.size ≤ maxLen) :
    Calls Try.prog 32 #[.string s] w fun e w' => e = .returned (.int .i64 (Chk.xor s.data.toList)) ∧ w' = w := by
  have hml : s.size ≤ 9223372036854775807 := hs
  clear hs
  go_enter Try.func32, Try.ntmps32
  go_wp2
  go_loopw [3, 7] (fun v i wr => ∃ k : Nat, k ≤ s.size ∧ v = .int .u8 (Chk.xor (s.data.toList.take k)) ∧ i = .int .i64 k ∧ wr = w) (fun _ i _ => s.size - (intOf i).toNat)
  case atStart => exact ⟨0, Nat.zero_le _, rfl, rfl, rfl⟩
  case round =>
    obtain ⟨k, hk, rfl, rfl, rfl⟩ := hrel
    have hx := Chk.xor_lt (s.data.toList.take k)
    by_cases hlt : k < s.size
    · have hsn : Hid (Chk.xor (s.data.toList.take (k + 1)) = Chk.xor (s.data.toList.take k) ^^^ s[k].toNat) := by
        show _ = _; rw [Chk.take_snoc s k hlt, Chk.xor_append, Chk.xor_one]
      generalize Chk.xor (s.data.toList.take k) = y at *
      have hX := Bit.xor_u8 y s[k].toNat hx (UInt8.toNat_lt s[k])
      go_wp2
      go_roundw
      case rel => exact ⟨k + 1, by omega, by rw [hsn.out], by go_num, trivial⟩
      case measure => simp [intOf]; omega
    · have hall : Hid (s.data.toList.take k = s.data.toList) := Chk.take_all s k (by omega)
      rw [hall.out] at hx
      have hL := u32_i64 _ (Nat.lt_trans hx (by decide))
      go_wp2
      go_ret
      exact ⟨ret_i (by rw [hall.out, hL]), rfl⟩
end Go.Proofs.Ytpgjdobgfhhbiaa
