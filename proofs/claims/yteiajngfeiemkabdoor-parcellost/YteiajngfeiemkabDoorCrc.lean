/-
  Walks of layer 2: turnByte, More, Crc, Xor and the document's.
-/
import Derived.Test.YteiajngfeiemkabDoorProg
import Derived.Test.YteiajngfeiemkabDoorMathK
import Derived.Test.YteiajngfeiemkabDoorBits2
import Derived.WalkKit
namespace Go.Proofs.YteiajngfeiemkabDoor
open Go.RowKit
namespace Chk
theorem bit_odd {x : Nat} (h : x < 4294967296) (ho : x % 2 = 1) : bits .xor .u32 ((x : Int) / 2) 3988292384 = (crcBit x : Int) := by
  have e := Bit.xor_u32 (x / 2) 3988292384 (by omega) (by decide)
  unfold crcBit
  rw [if_pos ho]
  exact e
theorem bit_even {x : Nat} (he : x % 2 = 0) : (x : Int) / 2 = (crcBit x : Int) := by
  unfold crcBit
  rw [if_neg (by omega), Nat.xor_zero]
  omega
theorem and_odd {x : Nat} (h : x < 4294967296) (ho : x % 2 = 1) : bits .and .u32 (x : Int) 1 = 1 := by rw [Bit.and_u32_1 x h, ho]; rfl
theorem and_even {x : Nat} (h : x < 4294967296) (he : x % 2 = 0) : bits .and .u32 (x : Int) 1 = 0 := by rw [Bit.and_u32_1 x h, he]; rfl
theorem take_snoc (s : ByteArray) (k : Nat) (h : k < s.size) : s.data.toList.take (k + 1) = s.data.toList.take k ++ [s[k]] := by
  have hl : k < s.data.toList.length := by simpa using h
  rw [List.take_succ_eq_append_getElem hl]
  congr 1
theorem take_all (s : ByteArray) (k : Nat) (h : s.size ≤ k) : s.data.toList.take k = s.data.toList := List.take_of_length_le (by simpa using h)
end Chk
theorem ret_i {k : IntKind} {a b : Int} (h : a = b) : Ending.returned (.int k a) = .returned (.int k b) := by rw [h]

set_option maxHeartbeats 400000 in
theorem turnByte_any (c : Nat) (hc : c < 4294967296) (w : World) :
    Calls Tryd.prog 22 #[.int .u32 c] w fun e w' => e = .returned (.int .u32 (Chk.crcBits 8 c)) ∧ w' = w := by
  go_enter Tryd.func22, Tryd.ntmps22
  go_wp2
  go_loopw [0, 4] (fun v i wr => ∃ k : Nat, k ≤ 8 ∧ v = .int .u32 (Chk.crcBits k c) ∧ i = .int .i64 k ∧ wr = w) (fun _ i _ => 8 - (intOf i).toNat)
  case atStart => exact ⟨0, Nat.zero_le _, rfl, rfl, rfl⟩
  case round =>
    obtain ⟨k, hk, rfl, rfl, rfl⟩ := hrel
    have hx := Chk.crcBits_lt k hc
    have hl := Chk.crcBits_last k c
    generalize hy : Chk.crcBits k c = x at *
    by_cases hlt : k < 8
    · rcases Nat.mod_two_eq_zero_or_one x with he | ho
      · have hA := Chk.and_even hx he
        have hB := Chk.bit_even he
        clear he
        go_wp2
        go_roundw
        case rel => exact ⟨k + 1, by omega, by rw [hl, ← hB], by go_num, trivial⟩
        case measure => simp [intOf]; omega
      · have hA := Chk.and_odd hx ho
        have hB := Chk.bit_odd hx ho
        clear ho
        go_wp2
        go_roundw
        case rel => exact ⟨k + 1, by omega, by rw [hl, ← hB], by go_num, trivial⟩
        case measure => simp [intOf]; omega
    · obtain rfl : k = 8 := by omega
      go_wp2
      go_ret
      exact ⟨ret_i (by rw [hy]), rfl⟩

theorem u32_not (x : Nat) (h : x < 4294967296) : bits .xor .u32 IntKind.u32.max (x : Int) = ((4294967295 ^^^ x : Nat) : Int) := Bit.xor_u32 4294967295 x (by decide) h
theorem u32_not' (x : Nat) (h : x < 4294967296) : bits .xor .u32 (x : Int) 4294967295 = ((4294967295 ^^^ x : Nat) : Int) := by
  rw [Nat.xor_comm]; exact Bit.xor_u32 x 4294967295 h (by decide)
theorem u32_low (x : Int) : IntKind.u32.wrap x = (Chk.low32 x : Int) := by rw [IntKind.wrap_u32]; unfold Chk.low32; omega
theorem u32_i64 (x : Nat) (h : x < 4294967296) : wrap64 (x : Int) = (x : Int) := by unfold wrap64; omega

set_option maxHeartbeats 400000 in
theorem more_any (sum : Int) (s : ByteArray) (w : World) (hs : s.size ≤ maxLen) :
    Calls Tryd.prog 15 #[.int .i64 sum, .string s] w fun e w' => e = .returned (.int .i64 (Chk.more sum s.data.toList)) ∧ w' = w := by
  have hml : s.size ≤ 9223372036854775807 := hs
  clear hs
  have hW := u32_low sum
  have hlow := Chk.low32_lt sum
  have hm : Hid (Chk.more sum s.data.toList = 4294967295 ^^^ Chk.crcOn (4294967295 ^^^ Chk.low32 sum) s.data.toList) := rfl
  generalize Chk.low32 sum = x at *
  have hN := u32_not x hlow
  have h0 : 4294967295 ^^^ x < 4294967296 := Chk.xor32 (by decide) hlow
  generalize 4294967295 ^^^ x = c at *
  go_enter Tryd.func15, Tryd.ntmps15
  go_wp2
  go_loopw [5, 12] (fun v i wr => ∃ k : Nat, k ≤ s.size ∧ v = .int .u32 (Chk.crcOn c (s.data.toList.take k)) ∧ i = .int .i64 k ∧ wr = w) (fun _ i _ => s.size - (intOf i).toNat)
  case atStart => exact ⟨0, Nat.zero_le _, rfl, rfl, rfl⟩
  case round =>
    obtain ⟨k, hk, rfl, rfl, rfl⟩ := hrel
    have hx := Chk.crcOn_lt (s.data.toList.take k) h0
    by_cases hlt : k < s.size
    · have hsn : Hid (Chk.crcOn c (s.data.toList.take (k + 1)) = Chk.crcBits 8 (Chk.crcOn c (s.data.toList.take k) ^^^ s[k].toNat)) := by
        show _ = _; rw [Chk.take_snoc s k hlt, Chk.crcOn_append]; rfl
      generalize Chk.crcOn c (s.data.toList.take k) = y at *
      have hb := Chk.byte32 s[k]
      have hw : IntKind.u32.wrap (s[k].toNat : Int) = (s[k].toNat : Int) := by rw [IntKind.wrap_u32]; omega
      have hX := Bit.xor_u32 y s[k].toNat hx hb
      have HA := turnByte_any (y ^^^ s[k].toNat) (Chk.xor32 hx hb) wr
      go_wp2_with (go_at_call 22; refine HA.mono ?_; rintro e w' ⟨rfl, rfl⟩)
      go_roundw
      case rel => exact ⟨k + 1, by omega, by rw [hsn.out], by go_num, trivial⟩
      case measure => simp [intOf]; omega
    · have hall : Hid (s.data.toList.take k = s.data.toList) := Chk.take_all s k (by omega)
      rw [hall.out] at hx
      have hN2 := u32_not _ hx
      have hL := u32_i64 _ (Chk.xor32 (by decide : 4294967295 < 4294967296) hx)
      go_wp2
      go_ret
      exact ⟨ret_i (by rw [hall.out, hN2, hL, hm.out]), rfl⟩
end Go.Proofs.YteiajngfeiemkabDoor
