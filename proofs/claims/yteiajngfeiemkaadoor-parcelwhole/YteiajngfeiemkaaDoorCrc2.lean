/-
  Walks of layer 2: Crc, Xor and the document's More, Crc, Xor.
-/
import Derived.Test.YteiajngfeiemkaaDoorCrc
namespace Go.Proofs.YteiajngfeiemkaaDoor
open Go.RowKit

theorem crc_any (s : ByteArray) (w : World) (hs : s.size ≤ maxLen) :
    Calls Tryd.prog 34 #[.string s] w fun e w' => e = .returned (.int .i64 (Chk.more 0 s.data.toList)) ∧ w' = w := by
  have HA := more_any 0 s w hs
  go_enter Tryd.func34, Tryd.ntmps34
  go_wp2_with (go_at_call 38; refine HA.mono ?_; rintro e w' ⟨rfl, rfl⟩)
  go_ret
  exact ⟨rfl, rfl⟩

set_option maxHeartbeats 400000 in
theorem refMore_any (sum : Int) (s : ByteArray) (w : World) (hs : s.size ≤ maxLen) :
    Calls Tryd.prog 35 #[.int .i64 sum, .string s] w fun e w' => e = .returned (.int .i64 (Chk.more sum s.data.toList)) ∧ w' = w := by
  have hml : s.size ≤ 9223372036854775807 := hs
  clear hs
  have hW := u32_low sum
  have hlow := Chk.low32_lt sum
  have hm : Hid (Chk.more sum s.data.toList = 4294967295 ^^^ Chk.crcOn (4294967295 ^^^ Chk.low32 sum) s.data.toList) := rfl
  generalize Chk.low32 sum = x at *
  have hN := u32_not' x hlow
  have h0 : 4294967295 ^^^ x < 4294967296 := Chk.xor32 (by decide) hlow
  generalize 4294967295 ^^^ x = c at *
  go_enter Tryd.func35, Tryd.ntmps35
  go_wp2
  go_loopw [5, 12] (fun v i wr => ∃ k : Nat, k ≤ s.size ∧ v = .int .u32 (Chk.crcOn c (s.data.toList.take k)) ∧ i = .int .i64 k ∧ wr = w) (fun _ i _ => s.size - (intOf i).toNat)
  case atStart => exact ⟨0, Nat.zero_le _, rfl, rfl, rfl⟩
  case round =>
    obtain ⟨k, hk, rfl, rfl, rfl⟩ := hrel
    have hx := Chk.crcOn_lt (s.data.toList.take k) h0
    by_cases hlt : k < s.size
    · have hsn : Hid (Chk.crcOn c (s.data.toList.take (k + 1)) = Chk.crcBits 8 (Chk.crcOn c (s.data.toList.take k) ^^^ s[k].toNat)) := by
        show _ = _; rw [Chk.take_snoc s k hlt, Chk.crcOn_append]; rfl
      generalize Chk.crcOn c (s.data.toList.take k) = y at *
      have hb := Chk.byte32 s[k]
      have hw : IntKind.u32.wrap (s[k].toNat : Int) = (s[k].toNat : Int) := by rw [IntKind.wrap_u32]; omega
      have hX := Bit.xor_u32 y s[k].toNat hx hb
      have hz := Chk.xor32 hx hb
      generalize y ^^^ s[k].toNat = z at *
      go_wp2
      go_loopw [5, 21] (fun v i wr' => ∃ j : Nat, j ≤ 8 ∧ v = .int .u32 (Chk.crcBits j z) ∧ i = .int .i64 j ∧ wr' = wr) (fun _ i _ => 8 - (intOf i).toNat)
      case atStart => exact ⟨0, Nat.zero_le _, rfl, rfl, rfl⟩
      case round =>
        obtain ⟨j, hj, rfl, rfl, rfl⟩ := hrel
        have hjx := Chk.crcBits_lt j hz
        have hl : Hid (Chk.crcBits (j + 1) z = Chk.crcBit (Chk.crcBits j z)) := Chk.crcBits_last j z
        generalize hy : Chk.crcBits j z = q at *
        by_cases hjl : j < 8
        · rcases Nat.mod_two_eq_zero_or_one q with he | ho
          · have hA := Chk.and_even hjx he
            have hB := Chk.bit_even he
            clear he
            go_wp2
            go_roundw
            case rel => exact ⟨j + 1, by omega, by rw [hl.out, ← hB], by go_num, trivial⟩
            case measure => simp [intOf]; omega
          · have hA := Chk.and_odd hjx ho
            have hB := Chk.bit_odd hjx ho
            clear ho
            go_wp2
            go_roundw
            case rel => exact ⟨j + 1, by omega, by rw [hl.out, ← hB], by go_num, trivial⟩
            case measure => simp [intOf]; omega
        · obtain rfl : j = 8 := by omega
          go_wp2
          go_roundw
          case rel => exact ⟨k + 1, by omega, by rw [hsn.out, hy], by go_num, trivial⟩
          case measure => simp [intOf]; omega
    · have hall : Hid (s.data.toList.take k = s.data.toList) := Chk.take_all s k (by omega)
      rw [hall.out] at hx
      have hN2 := u32_not' _ hx
      have hL := u32_i64 _ (Chk.xor32 (by decide : 4294967295 < 4294967296) hx)
      go_wp2
      go_ret
      exact ⟨ret_i (by rw [hall.out, hN2, hL, hm.out]), rfl⟩

theorem refCrc_any (s : ByteArray) (w : World) (hs : s.size ≤ maxLen) :
    Calls Tryd.prog 28 #[.string s] w fun e w' => e = .returned (.int .i64 (Chk.more 0 s.data.toList)) ∧ w' = w := by
  have HA := refMore_any 0 s w hs
  go_enter Tryd.func28, Tryd.ntmps28
  go_wp2_with (go_at_call 35; refine HA.mono ?_; rintro e w' ⟨rfl, rfl⟩)
  go_ret
  exact ⟨rfl, rfl⟩

end Go.Proofs.YteiajngfeiemkaaDoor
