/-
  Walks of layer 2: turnByte, More, Crc, Xor and the document's. Walks of layer 2: Crc, Xor and the document's More, Crc, Xor. Walks of layer 2: Sum, Packet, Control and the document's. Walk of layer 2: the document's Sum. Walks of layer 2: lowByte, Packet, Control and the document's; the statements' awake and long.
-/
import Derived.Test.YtomldoijcclhhaaGreatProg
import Derived.Test.YtomldoijcclhhaaGreatSkAA
import Derived.Test.YtomldoijcclhhaaGreatSkAE
import Derived.WalkKit
namespace Go.Proofs.YtomldoijcclhhaaGreat
open Go.RowKit
namespace Chk
theorem bit_odd {x : Nat} (h : x < 4294967296) (ho : x % 2 = 1) : bits .xor .u32 ((x : Int) / 2) 3988292384 = (crcBit x : Int) := by
  have e := Bit.xor_u32 (x / 2) 3988292384 (by omega) (by decide)
  unfold crcBit
  rw [if_pos ho]
  exact e
theorem bit_even {x : Nat} (he : x % 2 = 0) : (x : Int) / 2 = (crcBit x : Int) := by
  unfold crcBit
  rw [if_neg (by omega), Nat.xor_zero]
  omega
theorem and_odd {x : Nat} (h : x < 4294967296) (ho : x % 2 = 1) : bits .and .u32 (x : Int) 1 = 1 := by rw [Bit.and_u32_1 x h, ho]; rfl
theorem and_even {x : Nat} (h : x < 4294967296) (he : x % 2 = 0) : bits .and .u32 (x : Int) 1 = 0 := by rw [Bit.and_u32_1 x h, he]; rfl
theorem take_snoc (s : ByteArray) (k : Nat) (h : k < s.size) : s.data.toList.take (k + 1) = s.data.toList.take k ++ [s[k]] := by
  have hl : k < s.data.toList.length := by simpa using h
  rw [List.take_succ_eq_append_getElem hl]
  congr 1
theorem take_all (s : ByteArray) (k : Nat) (h : s.size ≤ k) : s.data.toList.take k = s.data.toList := List.take_of_length_le (by simpa using h)
end Chk
theorem ret_i {k : IntKind} {a b : Int} (h : a = b) : Ending.returned (.int k a) = .returned (.int k b) := by rw [h]

set_option maxHeartbeats 400000 in
theorem turnByte_any (c : Nat) (hc : c < 4294967296) (w : World) :
    Calls Tryz.prog 212 #[.int .u32 c] w fun e w' => e = .returned (.int .u32 (Chk.crcBits 8 c)) ∧ w' = w := by
  go_enter Tryz.func212, Tryz.ntmps212
  go_wp2
  go_loopw [0, 4] (fun v i wr => ∃ k : Nat, k ≤ 8 ∧ v = .int .u32 (Chk.crcBits k c) ∧ i = .int .i64 k ∧ wr = w) (fun _ i _ => 8 - (intOf i).toNat)
  case atStart => exact ⟨0, Nat.zero_le _, rfl, rfl, rfl⟩
  case round =>
    obtain ⟨k, hk, rfl, rfl, rfl⟩ := hrel
    have hx := Chk.crcBits_lt k hc
    have hl := Chk.crcBits_last k c
    generalize hy : Chk.crcBits k c = x at *
    by_cases hlt : k < 8
    · rcases Nat.mod_two_eq_zero_or_one x with he | ho
      · have hA := Chk.and_even hx he
        have hB := Chk.bit_even he
        clear he
        go_wp2
        go_roundw
        case rel => exact ⟨k + 1, by omega, by rw [hl, ← hB], by go_num, trivial⟩
        case measure => simp [intOf]; omega
      · have hA := Chk.and_odd hx ho
        have hB := Chk.bit_odd hx ho
        clear ho
        go_wp2
        go_roundw
        case rel => exact ⟨k + 1, by omega, by rw [hl, ← hB], by go_num, trivial⟩
        case measure => simp [intOf]; omega
    · obtain rfl : k = 8 := by omega
      go_wp2
      go_ret
      exact ⟨ret_i (by rw [hy]), rfl⟩

theorem u32_not (x : Nat) (h : x < 4294967296) : bits .xor .u32 IntKind.u32.max (x : Int) = ((4294967295 ^^^ x : Nat) : Int) := Bit.xor_u32 4294967295 x (by decide) h
theorem u32_not' (x : Nat) (h : x < 4294967296) : bits .xor .u32 (x : Int) 4294967295 = ((4294967295 ^^^ x : Nat) : Int) := by
  rw [Nat.xor_comm]; exact Bit.xor_u32 x 4294967295 h (by decide)
theorem u32_low (x : Int) : IntKind.u32.wrap x = (Chk.low32 x : Int) := by rw [IntKind.wrap_u32]; unfold Chk.low32; omega
theorem u32_i64 (x : Nat) (h : x < 4294967296) : wrap64 (x : Int) = (x : Int) := by unfold wrap64; omega

set_option maxHeartbeats 400000 in
theorem more_any (sum : Int) (s : ByteArray) (w : World) (hs : s.size ≤ maxLen) :
    Calls Tryz.prog 206 #[.int .i64 sum, .string s] w fun e w' => e = .returned (.int .i64 (Chk.more sum s.data.toList)) ∧ w' = w := by
  have hml : s.size ≤ 9223372036854775807 := hs
  clear hs
  have hW := u32_low sum
  have hlow := Chk.low32_lt sum
  have hm : Hid (Chk.more sum s.data.toList = 4294967295 ^^^ Chk.crcOn (4294967295 ^^^ Chk.low32 sum) s.data.toList) := rfl
  generalize Chk.low32 sum = x at *
  have hN := u32_not x hlow
  have h0 : 4294967295 ^^^ x < 4294967296 := Chk.xor32 (by decide) hlow
  generalize 4294967295 ^^^ x = c at *
  go_enter Tryz.func206, Tryz.ntmps206
  go_wp2
  go_loopw [5, 12] (fun v i wr => ∃ k : Nat, k ≤ s.size ∧ v = .int .u32 (Chk.crcOn c (s.data.toList.take k)) ∧ i = .int .i64 k ∧ wr = w) (fun _ i _ => s.size - (intOf i).toNat)
  case atStart => exact ⟨0, Nat.zero_le _, rfl, rfl, rfl⟩
  case round =>
    obtain ⟨k, hk, rfl, rfl, rfl⟩ := hrel
    have hx := Chk.crcOn_lt (s.data.toList.take k) h0
    by_cases hlt : k < s.size
    · have hsn : Hid (Chk.crcOn c (s.data.toList.take (k + 1)) = Chk.crcBits 8 (Chk.crcOn c (s.data.toList.take k) ^^^ s[k].toNat)) := by
        show _ = _; rw [Chk.take_snoc s k hlt, Chk.crcOn_append]; rfl
      generalize Chk.crcOn c (s.data.toList.take k) = y at *
      have hb := Chk.byte32 s[k]
      have hw : IntKind.u32.wrap (s[k].toNat : Int) = (s[k].toNat : Int) := by rw [IntKind.wrap_u32]; omega
      have hX := Bit.xor_u32 y s[k].toNat hx hb
      have HA := turnByte_any (y ^^^ s[k].toNat) (Chk.xor32 hx hb) wr
      go_wp2_with (go_at_call 212; refine HA.mono ?_; rintro e w' ⟨rfl, rfl⟩)
      go_roundw
      case rel => exact ⟨k + 1, by omega, by rw [hsn.out], by go_num, trivial⟩
      case measure => simp [intOf]; omega
    · have hall : Hid (s.data.toList.take k = s.data.toList) := Chk.take_all s k (by omega)
      rw [hall.out] at hx
      have hN2 := u32_not _ hx
      have hL := u32_i64 _ (Chk.xor32 (by decide : 4294967295 < 4294967296) hx)
      go_wp2
      go_ret
      exact ⟨ret_i (by rw [hall.out, hN2, hL, hm.out]), rfl⟩
end Go.Proofs.YtomldoijcclhhaaGreat

namespace Go.Proofs.YtomldoijcclhhaaGreat
open Go.RowKit

theorem crc_any (s : ByteArray) (w : World) (hs : s.size ≤ maxLen) :
    Calls Tryz.prog 196 #[.string s] w fun e w' => e = .returned (.int .i64 (Chk.more 0 s.data.toList)) ∧ w' = w := by
  have HA := more_any 0 s w hs
  go_enter Tryz.func196, Tryz.ntmps196
  go_wp2_with (go_at_call 206; refine HA.mono ?_; rintro e w' ⟨rfl, rfl⟩)
  go_ret
  exact ⟨rfl, rfl⟩

set_option maxHeartbeats 400000 in
theorem refMore_any (sum : Int) (s : ByteArray) (w : World) (hs : s.size ≤ maxLen) :
    Calls Tryz.prog 176 #[.int .i64 sum, .string s] w fun e w' => e = .returned (.int .i64 (Chk.more sum s.data.toList)) ∧ w' = w := by
  have hml : s.size ≤ 9223372036854775807 := hs
  clear hs
  have hW := u32_low sum
  have hlow := Chk.low32_lt sum
  have hm : Hid (Chk.more sum s.data.toList = 4294967295 ^^^ Chk.crcOn (4294967295 ^^^ Chk.low32 sum) s.data.toList) := rfl
  generalize Chk.low32 sum = x at *
  have hN := u32_not' x hlow
  have h0 : 4294967295 ^^^ x < 4294967296 := Chk.xor32 (by decide) hlow
  generalize 4294967295 ^^^ x = c at *
  go_enter Tryz.func176, Tryz.ntmps176
  go_wp2
  go_loopw [5, 12] (fun v i wr => ∃ k : Nat, k ≤ s.size ∧ v = .int .u32 (Chk.crcOn c (s.data.toList.take k)) ∧ i = .int .i64 k ∧ wr = w) (fun _ i _ => s.size - (intOf i).toNat)
  case atStart => exact ⟨0, Nat.zero_le _, rfl, rfl, rfl⟩
  case round =>
    obtain ⟨k, hk, rfl, rfl, rfl⟩ := hrel
    have hx := Chk.crcOn_lt (s.data.toList.take k) h0
    by_cases hlt : k < s.size
    · have hsn : Hid (Chk.crcOn c (s.data.toList.take (k + 1)) = Chk.crcBits 8 (Chk.crcOn c (s.data.toList.take k) ^^^ s[k].toNat)) := by
        show _ = _; rw [Chk.take_snoc s k hlt, Chk.crcOn_append]; rfl
      generalize Chk.crcOn c (s.data.toList.take k) = y at *
      have hb := Chk.byte32 s[k]
      have hw : IntKind.u32.wrap (s[k].toNat : Int) = (s[k].toNat : Int) := by rw [IntKind.wrap_u32]; omega
      have hX := Bit.xor_u32 y s[k].toNat hx hb
      have hz := Chk.xor32 hx hb
      generalize y ^^^ s[k].toNat = z at *
      go_wp2
      go_loopw [5, 21] (fun v i wr' => ∃ j : Nat, j ≤ 8 ∧ v = .int .u32 (Chk.crcBits j z) ∧ i = .int .i64 j ∧ wr' = wr) (fun _ i _ => 8 - (intOf i).toNat)
      case atStart => exact ⟨0, Nat.zero_le _, rfl, rfl, rfl⟩
      case round =>
        obtain ⟨j, hj, rfl, rfl, rfl⟩ := hrel
        have hjx := Chk.crcBits_lt j hz
        have hl : Hid (Chk.crcBits (j + 1) z = Chk.crcBit (Chk.crcBits j z)) := Chk.crcBits_last j z
        generalize hy : Chk.crcBits j z = q at *
        by_cases hjl : j < 8
        · rcases Nat.mod_two_eq_zero_or_one q with he | ho
          · have hA := Chk.and_even hjx he
            have hB := Chk.bit_even he
            clear he
            go_wp2
            go_roundw
            case rel => exact ⟨j + 1, by omega, by rw [hl.out, ← hB], by go_num, trivial⟩
            case measure => simp [intOf]; omega
          · have hA := Chk.and_odd hjx ho
            have hB := Chk.bit_odd hjx ho
            clear ho
            go_wp2
            go_roundw
            case rel => exact ⟨j + 1, by omega, by rw [hl.out, ← hB], by go_num, trivial⟩
            case measure => simp [intOf]; omega
        · obtain rfl : j = 8 := by omega
          go_wp2
          go_roundw
          case rel => exact ⟨k + 1, by omega, by rw [hsn.out, hy], by go_num, trivial⟩
          case measure => simp [intOf]; omega
    · have hall : Hid (s.data.toList.take k = s.data.toList) := Chk.take_all s k (by omega)
      rw [hall.out] at hx
      have hN2 := u32_not' _ hx
      have hL := u32_i64 _ (Chk.xor32 (by decide : 4294967295 < 4294967296) hx)
      go_wp2
      go_ret
      exact ⟨ret_i (by rw [hall.out, hN2, hL, hm.out]), rfl⟩

theorem refCrc_any (s : ByteArray) (w : World) (hs : s.size ≤ maxLen) :
    Calls Tryz.prog 140 #[.string s] w fun e w' => e = .returned (.int .i64 (Chk.more 0 s.data.toList)) ∧ w' = w := by
  have HA := refMore_any 0 s w hs
  go_enter Tryz.func140, Tryz.ntmps140
  go_wp2_with (go_at_call 176; refine HA.mono ?_; rintro e w' ⟨rfl, rfl⟩)
  go_ret
  exact ⟨rfl, rfl⟩

set_option maxHeartbeats 400000 in
theorem xor_any (s : ByteArray) (w : World) (hs : s.size ≤ maxLen) :
    Calls Tryz.prog 181 #[.string s] w fun e w' => e = .returned (.int .i64 (Chk.xor s.data.toList)) ∧ w' = w := by
  have hml : s.size ≤ 9223372036854775807 := hs
  clear hs
  go_enter Tryz.func181, Tryz.ntmps181
  go_wp2
  go_loopw [3, 7] (fun v i wr => ∃ k : Nat, k ≤ s.size ∧ v = .int .u8 (Chk.xor (s.data.toList.take k)) ∧ i = .int .i64 k ∧ wr = w) (fun _ i _ => s.size - (intOf i).toNat)
  case atStart => exact ⟨0, Nat.zero_le _, rfl, rfl, rfl⟩
  case round =>
    obtain ⟨k, hk, rfl, rfl, rfl⟩ := hrel
    have hx := Chk.xor_lt (s.data.toList.take k)
    by_cases hlt : k < s.size
    · have hsn : Hid (Chk.xor (s.data.toList.take (k + 1)) = Chk.xor (s.data.toList.take k) ^^^ s[k].toNat) := by
        show _ = _; rw [Chk.take_snoc s k hlt, Chk.xor_append, Chk.xor_one]
      generalize Chk.xor (s.data.toList.take k) = y at *
      have hX := Bit.xor_u8 y s[k].toNat hx (UInt8.toNat_lt s[k])
      go_wp2
      go_roundw
      case rel => exact ⟨k + 1, by omega, by rw [hsn.out], by go_num, trivial⟩
      case measure => simp [intOf]; omega
    · have hall : Hid (s.data.toList.take k = s.data.toList) := Chk.take_all s k (by omega)
      rw [hall.out] at hx
      have hL := u32_i64 _ (Nat.lt_trans hx (by decide))
      go_wp2
      go_ret
      exact ⟨ret_i (by rw [hall.out, hL]), rfl⟩

end Go.Proofs.YtomldoijcclhhaaGreat

namespace Go.Proofs.YtomldoijcclhhaaGreat
open Go.RowKit
namespace Chk
theorem rot_or (s : Nat) (h : s < 65536) : s * 2 % 65536 ||| s / 32768 = rot s := by
  have e := Bit.or_bit (s % 32768) (s / 32768) (by omega)
  unfold rot
  rw [show s * 2 % 65536 = s % 32768 * 2 by omega]
  exact e
theorem rot_u16 (s : Nat) (h : s < 65536) : bits .or .u16 (IntKind.u16.wrap ((s : Int) * 2)) ((s : Int) / 32768) = (rot s : Int) := by
  have e := Bit.or_u16 (s * 2 % 65536) (s / 32768) (by omega) (by omega)
  rw [rot_or s h] at e
  rw [IntKind.wrap_u16, show ((s : Int) * 2) % 65536 = ((s * 2 % 65536 : Nat) : Int) by omega, show (s : Int) / 32768 = ((s / 32768 : Nat) : Int) by omega]
  exact e
theorem rot_i64 (s : Nat) (h : s < 65536) : bits .and .i64 (bits .or .i64 ((s : Int) * 2) ((s : Int) / 32768)) 65535 = (rot s : Int) := by
  have e := Bit.or_i64 (s * 2) (s / 32768) (by omega) (by omega)
  rw [Bit.or_bit s (s / 32768) (by omega)] at e
  rw [show (s : Int) * 2 = ((s * 2 : Nat) : Int) by omega, show (s : Int) / 32768 = ((s / 32768 : Nat) : Int) by omega, e, Bit.and_i64_65535]
  unfold rot
  omega
theorem drop_cons (s : ByteArray) (k : Nat) (h : k < s.size) : s.data.toList.drop k = s[k] :: s.data.toList.drop (k + 1) := by
  have hl : k < s.data.toList.length := by simpa using h
  rw [List.drop_eq_getElem_cons hl]
  congr 1
theorem sumOn_step (s : ByteArray) (k : Nat) (h : k < s.size) (a x : Nat) :
    sumOn (s.data.toList.drop k) a x = sumOn (s.data.toList.drop (k + 1)) (sumS a x (s.size - k) s[k].toNat) (sumX a x (s.size - k) s[k].toNat) := by
  rw [drop_cons s k h]
  unfold sumOn
  have hl : (s.data.toList.drop (k + 1)).length + 1 = s.size - k := by
    rw [List.length_drop, Array.length_toList]; show s.size - (k + 1) + 1 = _; omega
  rw [hl]
  cases s.data.toList.drop (k + 1) <;> rfl
theorem sumOn_all (s : ByteArray) (k : Nat) (h : s.size ≤ k) (a x : Nat) : sumOn (s.data.toList.drop k) a x = a := by
  rw [List.drop_eq_nil_of_le (by simpa using h)]; rfl
theorem sumS_le {s x n c : Nat} (h : sumT s c ≤ rot s) : sumS s x n c = sumT s c ^^^ sumX s x n c := if_pos h
theorem sumS_gt {s x n c : Nat} (h : ¬ sumT s c ≤ rot s) : sumS s x n c = sumT s c := if_neg h
end Chk

set_option maxHeartbeats 400000 in
theorem sum_any (s : ByteArray) (w : World) (hs : s.size ≤ maxLen) :
    Calls Tryz.prog 200 #[.string s] w fun e w' => e = .returned (.int .i64 (Chk.sum s.data.toList)) ∧ w' = w := by
  have hml : s.size ≤ 9223372036854775807 := hs
  clear hs
  go_enter Tryz.func200, Tryz.ntmps200
  go_wp2
  go_loopw [3, 4, 9] (fun v u i wr => ∃ k a x : Nat, k ≤ s.size ∧ a < 65536 ∧ x < 65536 ∧ v = .int .u16 a ∧ u = .int .u16 x ∧ i = .int .i64 k ∧ Hid (Chk.sumOn (s.data.toList.drop k) a x = Chk.sum s.data.toList) ∧ wr = w) (fun _ _ i _ => s.size - (intOf i).toNat)
  case atStart => exact ⟨0, 65535, 0, Nat.zero_le _, by decide, by decide, rfl, rfl, rfl, rfl, rfl⟩
  case round =>
    obtain ⟨k, a, x, hk, ha, hx, rfl, rfl, rfl, hsum, rfl⟩ := hrel
    by_cases hlt : k < s.size
    · have hst : Hid (Chk.sumOn (s.data.toList.drop (k + 1)) (Chk.sumS a x (s.size - k) s[k].toNat) (Chk.sumX a x (s.size - k) s[k].toNat) = Chk.sum s.data.toList) := by
        show _ = _; rw [← Chk.sumOn_step s k hlt]; exact hsum.out
      clear hsum
      have hc := UInt8.toNat_lt s[k]
      have hrl := Chk.rot_lt ha
      have f1 := Chk.rot_u16 a ha
      have f2 : IntKind.u16.wrap (s[k].toNat : Int) = (s[k].toNat : Int) := by rw [IntKind.wrap_u16]; omega
      have f3 : IntKind.u16.wrap ((Chk.rot a : Int) + (s[k].toNat : Int)) = (Chk.sumT a s[k].toNat : Int) := by rw [IntKind.wrap_u16]; unfold Chk.sumT; omega
      have f4 : IntKind.u16.wrap ((s.size : Int) - (k : Int)) = (((s.size - k) % 65536 : Nat) : Int) := by rw [IntKind.wrap_u16]; omega
      have f5 := Bit.xor_u16 (Chk.sumT a s[k].toNat) ((s.size - k) % 65536) (Chk.sumT_lt _ _) (Nat.mod_lt _ (by decide))
      have f6 : IntKind.u16.wrap ((x : Int) + ((Chk.sumT a s[k].toNat ^^^ (s.size - k) % 65536 : Nat) : Int)) = (Chk.sumX a x (s.size - k) s[k].toNat : Int) := by rw [IntKind.wrap_u16]; unfold Chk.sumX; omega
      have f7 := Bit.xor_u16 (Chk.sumT a s[k].toNat) (Chk.sumX a x (s.size - k) s[k].toNat) (Chk.sumT_lt _ _) (Chk.sumX_lt _ _ _ _)
      have hS := Chk.sumS_lt a x (s.size - k) s[k].toNat
      have hX := Chk.sumX_lt a x (s.size - k) s[k].toNat
      have hle : ∀ b : Bool, decide (Chk.sumT a s[k].toNat ≤ Chk.rot a) = b → decide ((Chk.sumT a s[k].toNat : Int) ≤ (Chk.rot a : Int)) = b := fun b h => by rw [← h]; congr 1; exact propext Int.ofNat_le
      have hv1 : Chk.sumT a s[k].toNat ≤ Chk.rot a → Hid (Chk.sumT a s[k].toNat ^^^ Chk.sumX a x (s.size - k) s[k].toNat = Chk.sumS a x (s.size - k) s[k].toNat) := fun h => (Chk.sumS_le h).symm
      have hv2 : ¬ Chk.sumT a s[k].toNat ≤ Chk.rot a → Hid (Chk.sumT a s[k].toNat = Chk.sumS a x (s.size - k) s[k].toNat) := fun h => (Chk.sumS_gt h).symm
      generalize Chk.sumS a x (s.size - k) s[k].toNat = z at *
      generalize Chk.sumX a x (s.size - k) s[k].toNat = y at *
      generalize Chk.sumT a s[k].toNat = t at *
      generalize Chk.rot a = r at *
      generalize (s.size - k) % 65536 = m at *
      generalize t ^^^ m = q at *
      by_cases hd : t ≤ r
      · have hd1 := decide_eq_true hd
        have hd2 := hle _ hd1
        have hsv := hv1 hd
        clear hle hv1 hv2
        go_wp2
        go_roundw
        case rel => exact ⟨k + 1, _, _, by omega, hS, hX, by rw [hsv.out], rfl, by go_num, hst, trivial⟩
        case measure => simp [intOf]; omega
      · have hd1 := decide_eq_false hd
        have hd2 := hle _ hd1
        have hsv := hv2 hd
        clear hle hv1 hv2
        go_wp2
        go_roundw
        case rel => exact ⟨k + 1, _, _, by omega, hS, hX, by rw [hsv.out], rfl, by go_num, hst, trivial⟩
        case measure => simp [intOf]; omega
    · have hall : Hid (a = Chk.sum s.data.toList) := by show _ = _; rw [← hsum.out, Chk.sumOn_all s k (by omega)]
      clear hsum
      go_wp2
      go_ret
      exact ⟨ret_i (by rw [hall.out]), rfl⟩

end Go.Proofs.YtomldoijcclhhaaGreat

namespace Go.Proofs.YtomldoijcclhhaaGreat
open Go.RowKit

set_option maxHeartbeats 400000 in
theorem refSum_any (s : ByteArray) (w : World) (hs : s.size ≤ maxLen) :
    Calls Tryz.prog 175 #[.string s] w fun e w' => e = .returned (.int .i64 (Chk.sum s.data.toList)) ∧ w' = w := by
  have hml : s.size ≤ 9223372036854775807 := hs
  clear hs
  go_enter Tryz.func175, Tryz.ntmps175
  go_wp2
  go_loopw [3, 4, 5, 12] (fun v u n i wr => ∃ k a x : Nat, k ≤ s.size ∧ a < 65536 ∧ x < 65536 ∧ v = .int .i64 a ∧ u = .int .i64 x ∧ n = .int .i64 ((s.size - k : Nat) : Int) ∧ i = .int .i64 k ∧ Hid (Chk.sumOn (s.data.toList.drop k) a x = Chk.sum s.data.toList) ∧ wr = w) (fun _ _ _ i _ => s.size - (intOf i).toNat)
  case atStart => exact ⟨0, 65535, 0, Nat.zero_le _, by decide, by decide, rfl, rfl, by rw [Nat.sub_zero], rfl, rfl, rfl⟩
  case round =>
    obtain ⟨k, a, x, hk, ha, hx, rfl, rfl, rfl, rfl, hsum, rfl⟩ := hrel
    by_cases hlt : k < s.size
    · have hst : Hid (Chk.sumOn (s.data.toList.drop (k + 1)) (Chk.sumS a x (s.size - k) s[k].toNat) (Chk.sumX a x (s.size - k) s[k].toNat) = Chk.sum s.data.toList) := by
        show _ = _; rw [← Chk.sumOn_step s k hlt]; exact hsum.out
      clear hsum
      have hc := UInt8.toNat_lt s[k]
      have hrl := Chk.rot_lt ha
      have hn1 : 1 ≤ s.size - k := by omega
      have hn2 : s.size - k ≤ 9223372036854775807 := by omega
      have hnk : Hid (s.size - k - 1 = s.size - (k + 1)) := by show _ = _; omega
      have hS := Chk.sumS_lt a x (s.size - k) s[k].toNat
      have hX := Chk.sumX_lt a x (s.size - k) s[k].toNat
      generalize s.size - k = n at *
      have f1 := Chk.rot_i64 a ha
      have f3 : bits .and .i64 ((Chk.rot a : Int) + (s[k].toNat : Int)) 65535 = (Chk.sumT a s[k].toNat : Int) := by rw [Bit.and_i64_65535]; unfold Chk.sumT; omega
      have f4 : bits .and .i64 (n : Int) 65535 = ((n % 65536 : Nat) : Int) := by rw [Bit.and_i64_65535]; omega
      have f5 := Bit.xor_i64 (Chk.sumT a s[k].toNat) (n % 65536) (Nat.lt_trans (Chk.sumT_lt _ _) (by decide)) (Nat.lt_trans (Nat.mod_lt _ (by decide)) (by decide : 65536 < 4294967296))
      have f5l : Chk.sumT a s[k].toNat ^^^ n % 65536 < 65536 := Chk.xor16 (Chk.sumT_lt _ _) (Nat.mod_lt _ (by decide))
      have f6 : bits .and .i64 ((x : Int) + ((Chk.sumT a s[k].toNat ^^^ n % 65536 : Nat) : Int)) 65535 = (Chk.sumX a x n s[k].toNat : Int) := by rw [Bit.and_i64_65535]; unfold Chk.sumX; omega
      have f7 := Bit.xor_i64 (Chk.sumT a s[k].toNat) (Chk.sumX a x n s[k].toNat) (Nat.lt_trans (Chk.sumT_lt _ _) (by decide)) (Nat.lt_trans hX (by decide))
      have hle : ∀ b : Bool, decide (Chk.sumT a s[k].toNat ≤ Chk.rot a) = b → decide ((Chk.sumT a s[k].toNat : Int) ≤ (Chk.rot a : Int)) = b := fun b h => by rw [← h]; congr 1; exact propext Int.ofNat_le
      have hv1 : Chk.sumT a s[k].toNat ≤ Chk.rot a → Hid (Chk.sumT a s[k].toNat ^^^ Chk.sumX a x n s[k].toNat = Chk.sumS a x n s[k].toNat) := fun h => (Chk.sumS_le h).symm
      have hv2 : ¬ Chk.sumT a s[k].toNat ≤ Chk.rot a → Hid (Chk.sumT a s[k].toNat = Chk.sumS a x n s[k].toNat) := fun h => (Chk.sumS_gt h).symm
      generalize Chk.sumS a x n s[k].toNat = z at *
      generalize Chk.sumX a x n s[k].toNat = y at *
      generalize Chk.sumT a s[k].toNat = t at *
      generalize Chk.rot a = r at *
      generalize n % 65536 = m at *
      generalize t ^^^ m = q at *
      by_cases hd : t ≤ r
      · have hd1 := decide_eq_true hd
        have hd2 := hle _ hd1
        have hsv := hv1 hd
        clear hle hv1 hv2
        go_wp2
        go_roundw
        case rel => exact ⟨k + 1, _, _, by omega, hS, hX, by rw [hsv.out], rfl, by rw [← hnk.out]; go_num, by go_num, hst, trivial⟩
        case measure => simp [intOf]; omega
      · have hd1 := decide_eq_false hd
        have hd2 := hle _ hd1
        have hsv := hv2 hd
        clear hle hv1 hv2
        go_wp2
        go_roundw
        case rel => exact ⟨k + 1, _, _, by omega, hS, hX, by rw [hsv.out], rfl, by rw [← hnk.out]; go_num, by go_num, hst, trivial⟩
        case measure => simp [intOf]; omega
    · have hall : Hid (a = Chk.sum s.data.toList) := by show _ = _; rw [← hsum.out, Chk.sumOn_all s k (by omega)]
      clear hsum
      go_wp2
      go_ret
      exact ⟨ret_i (by rw [hall.out]), rfl⟩
end Go.Proofs.YtomldoijcclhhaaGreat

namespace Go.Proofs.YtomldoijcclhhaaGreat
open Go.RowKit

theorem lowByte_any (c : Int) (w : World) :
    Calls Tryz.prog 182 #[.int .i64 c] w fun e w' => e = .returned (.int .i64 (c % 256)) ∧ w' = w := by
  have h := Bit.and_i64_255 c
  go_enter Tryz.func182, Tryz.ntmps182
  go_wp2
  go_ret
  exact ⟨ret_i (by first | rfl | rw [h]), rfl⟩
theorem control_any (c : Int) (w : World) :
    Calls Tryz.prog 144 #[.int .i64 c] w fun e w' => e = .returned (.int .i64 (Chk.control c)) ∧ w' = w := by
  have HA := lowByte_any c w
  have h1 : 0 ≤ c % 256 := by omega
  have h2 : c % 256 < 256 := by omega
  have hr : Hid (43690 - c % 256 = Chk.control c) := rfl
  generalize c % 256 = d at *
  go_enter Tryz.func144, Tryz.ntmps144
  go_wp2_with (go_at_call 182; refine HA.mono ?_; rintro e w' ⟨rfl, rfl⟩)
  go_ret
  exact ⟨ret_i hr.out, rfl⟩
theorem refControl_any (c : Int) (w : World) :
    Calls Tryz.prog 136 #[.int .i64 c] w fun e w' => e = .returned (.int .i64 (Chk.control c)) ∧ w' = w := by
  have h := Bit.and_i64_255 c
  have h1 : 0 ≤ c % 256 := by omega
  have h2 : c % 256 < 256 := by omega
  have hr : Hid (43690 - c % 256 = Chk.control c) := rfl
  generalize c % 256 = d at *
  have hs := Bit.and_i64_65535 (43690 - d)
  have hs' : (43690 - d) % 65536 = 43690 - d := by omega
  rw [hs'] at hs
  clear hs'
  go_enter Tryz.func136, Tryz.ntmps136
  go_wp2
  go_ret
  exact ⟨ret_i (by first | exact hr.out | (rw [hs]; exact hr.out)), rfl⟩
theorem packet_any (s : ByteArray) (c : Int) (w : World) (hs : s.size ≤ maxLen) :
    Calls Tryz.prog 183 #[.string s, .int .i64 c] w fun e w' => e = .returned (.int .i64 (Chk.packet s.data.toList c)) ∧ w' = w := by
  have HA := sum_any s w hs
  have HB := lowByte_any c w
  have hr : Hid ((43690 - ((Chk.sum s.data.toList ^^^ (c % 256).toNat : Nat) : Int)) % 65536 = Chk.packet s.data.toList c) := rfl
  have ha := Chk.sum_lt s.data.toList
  obtain ⟨d, hd⟩ : ∃ d : Nat, c % 256 = (d : Int) := ⟨(c % 256).toNat, by omega⟩
  have hdl : d < 256 := by omega
  rw [hd] at HB hr
  rw [Int.toNat_natCast] at hr
  clear hd
  generalize Chk.sum s.data.toList = a at *
  have f1 : IntKind.u16.wrap (a : Int) = (a : Int) := by rw [IntKind.wrap_u16]; omega
  have f2 : IntKind.u16.wrap (d : Int) = (d : Int) := by rw [IntKind.wrap_u16]; omega
  have f3 := Bit.xor_u16 a d ha (by omega)
  have f4 := Chk.xor16 ha (show d < 65536 by omega)
  generalize a ^^^ d = q at *
  have f5 := IntKind.wrap_u16 (43690 - (q : Int))
  have f6 : Hid (wrap64 ((43690 - (q : Int)) % 65536) = (43690 - (q : Int)) % 65536) := by show _ = _; unfold wrap64; omega
  go_enter Tryz.func183, Tryz.ntmps183
  go_wp2_with (first | (go_at_call 200; refine HA.mono ?_; rintro e w' ⟨rfl, rfl⟩) | (go_at_call 182; refine HB.mono ?_; rintro e w' ⟨rfl, rfl⟩))
  go_ret
  exact ⟨ret_i (by first | exact hr.out | (rw [f6.out]; exact hr.out)), rfl⟩
theorem refPacket_any (s : ByteArray) (c : Int) (w : World) (hs : s.size ≤ maxLen) :
    Calls Tryz.prog 137 #[.string s, .int .i64 c] w fun e w' => e = .returned (.int .i64 (Chk.packet s.data.toList c)) ∧ w' = w := by
  have HA := refSum_any s w hs
  have hb := Bit.and_i64_255 c
  have hr : Hid ((43690 - ((Chk.sum s.data.toList ^^^ (c % 256).toNat : Nat) : Int)) % 65536 = Chk.packet s.data.toList c) := rfl
  have ha := Chk.sum_lt s.data.toList
  obtain ⟨d, hd⟩ : ∃ d : Nat, c % 256 = (d : Int) := ⟨(c % 256).toNat, by omega⟩
  have hdl : d < 256 := by omega
  rw [hd] at hb hr
  rw [Int.toNat_natCast] at hr
  clear hd
  generalize Chk.sum s.data.toList = a at *
  have f3 := Bit.xor_i64 a d (by omega) (by omega)
  have f4 := Chk.xor16 ha (show d < 65536 by omega)
  generalize a ^^^ d = q at *
  have f5 := Bit.and_i64_65535 (43690 - (q : Int))
  go_enter Tryz.func137, Tryz.ntmps137
  go_wp2_with (go_at_call 175; refine HA.mono ?_; rintro e w' ⟨rfl, rfl⟩)
  go_ret
  exact ⟨ret_i (by first | exact hr.out | (rw [f5]; exact hr.out)), rfl⟩

theorem ret_b {a b : Bool} (h : a = b) : Ending.returned (.bool a) = .returned (.bool b) := by rw [h]

end Go.Proofs.YtomldoijcclhhaaGreat
