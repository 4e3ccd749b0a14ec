/-
  Walks of layer 2: Sum, Packet, Control and the document's.
-/
import Derived.Test.YtpgjdobgfhhbiaaCrc2
namespace Go.Proofs.Ytpgjdobgfhhbiaa
open Go.RowKit
namespace Chk
theorem rot_or (s : Nat) (h : s < 65536) : s * 2 % 65536 ||| s / 32768 = rot s := by
  have e := Bit.or_bit (s % 32768) (s / 32768) (by omega)
  unfold rot
  rw [show s * 2 % 65536 = s % 32768 * 2 by omega]
  exact e
theorem rot_u16 (s : Nat) (h : s < 65536) : bits .or .u16 (IntKind.u16.wrap ((s : Int) * 2)) ((s : Int) / 32768) = (rot s : Int) := by
  have e := Bit.or_u16 (s * 2 % 65536) (s / 32768) (by omega) (by omega)
  rw [rot_or s h] at e
  rw [IntKind.wrap_u16, show ((s : Int) * 2) % 65536 = ((s * 2 % 65536 : Nat) : Int) by omega, show (s : Int) / 32768 = ((s / 32768 : Nat) : Int) by omega]
  exact e
theorem rot_i64 (s : Nat) (h : s < 65536) : bits .and .i64 (bits .or .i64 ((s : Int) * 2) ((s : Int) / 32768)) 65535 = (rot s : Int) := by
  have e := Bit.or_i64 (s * 2) (s / 32768) (by omega) (by omega)
  rw [Bit.or_bit s (s / 32768) (by omega)] at e
  rw [show (s : Int) * 2 = ((s * 2 : Nat) : Int) by omega, show (s : Int) / 32768 = ((s / 32768 : Nat) : Int) by omega, e, Bit.and_i64_65535]
  unfold rot
  omega
theorem drop_cons (s : ByteArray) (k : Nat) (h : k < s.size) : s.data.toList.drop k = s[k] :: s.data.toList.drop (k + 1) := by
  have hl : k < s.data.toList.length := by simpa using h
  rw [List.drop_eq_getElem_cons hl]
  congr 1
theorem sumOn_step (s : ByteArray) (k : Nat) (h : k < s.size) (a x : Nat) :
    sumOn (s.data.toList.drop k) a x = sumOn (s.data.toList.drop (k + 1)) (sumS a x (s.size - k) s[k].toNat) (sumX a x (s.size - k) s[k].toNat) := by
  rw [drop_cons s k h]
  unfold sumOn
  have hl : (s.data.toList.drop (k + 1)).length + 1 = s.size - k := by
    rw [List.length_drop, Array.length_toList]; show s.size - (k + 1) + 1 = _; omega
  rw [hl]
  cases s.data.toList.drop (k + 1) <;> rfl
theorem sumOn_all (s : ByteArray) (k : Nat) (h : s.size ≤ k) (a x : Nat) : sumOn (s.data.toList.drop k) a x = a := by
  rw [List.drop_eq_nil_of_le (by simpa using h)]; rfl
theorem sumS_le {s x n c : Nat} (h : sumT s c ≤ rot s) : sumS s x n c = sumT s c ^^^ sumX s x n c := if_pos h
theorem sumS_gt {s x n c : Nat} (h : ¬ sumT s c ≤ rot s) : sumS s x n c = sumT s c := if_neg h
end Chk

set_option maxHeartbeats 400000 in
theorem sum_any (s : ByteArray) (w : World) (hs : s.size ≤ maxLen) :
    Calls Try.prog 40 #[.string s] w fun e w' => e = .returned (.int .i64 (Chk.sum s.data.toList)) ∧ w' = w := by
  have hml : s.size ≤ 9223372036854775807 := hs
  clear hs
  go_enter Try.func40, Try.ntmps40
  go_wp2
  go_loopw [3, 4, 9] (fun v u i wr => ∃ k a x : Nat, k ≤ s.size ∧ a < 65536 ∧ x < 65536 ∧ v = .int .u16 a ∧ u = .int .u16 x ∧ i = .int .i64 k ∧ Hid (Chk.sumOn (s.data.toList.drop k) a x = Chk.sum s.data.toList) ∧ wr = w) (fun _ _ i _ => s.size - (intOf i).toNat)
  case atStart => exact ⟨0, 65535, 0, Nat.zero_le _, by decide, by decide, rfl, rfl, rfl, rfl, rfl⟩
  case round =>
    obtain ⟨k, a, x, hk, ha, hx, rfl, rfl, rfl, hsum, rfl⟩ := hrel
    by_cases hlt : k < s.size
    · have hst : Hid (Chk.sumOn (s.data.toList.drop (k + 1)) (Chk.sumS a x (s.size - k) s[k].toNat) (Chk.sumX a x (s.size - k) s[k].toNat) = Chk.sum s.data.toList) := by
        show _ = _; rw [← Chk.sumOn_step s k hlt]; exact hsum.out
      clear hsum
      have hc := UInt8.toNat_lt s[k]
      have hrl := Chk.rot_lt ha
      have f1 := Chk.rot_u16 a ha
      have f2 : IntKind.u16.wrap (s[k].toNat : Int) = (s[k].toNat : Int) := by rw [IntKind.wrap_u16]; omega
      have f3 : IntKind.u16.wrap ((Chk.rot a : Int) + (s[k].toNat : Int)) = (Chk.sumT a s[k].toNat : Int) := by rw [IntKind.wrap_u16]; unfold Chk.sumT; omega
      have f4 : IntKind.u16.wrap ((s.size : Int) - (k : Int)) = (((s.size - k) % 65536 : Nat) : Int) := by rw [IntKind.wrap_u16]; omega
      have f5 := Bit.xor_u16 (Chk.sumT a s[k].toNat) ((s.size - k) % 65536) (Chk.sumT_lt _ _) (Nat.mod_lt _ (by decide))
      have f6 : IntKind.u16.wrap ((x : Int) + ((Chk.sumT a s[k].toNat ^^^ (s.size - k) % 65536 : Nat) : Int)) = (Chk.sumX a x (s.size - k) s[k].toNat : Int) := by rw [IntKind.wrap_u16]; unfold Chk.sumX; omega
      have f7 := Bit.xor_u16 (Chk.sumT a s[k].toNat) (Chk.sumX a x (s.size - k) s[k].toNat) (Chk.sumT_lt _ _) (Chk.sumX_lt _ _ _ _)
      have hS := Chk.sumS_lt a x (s.size - k) s[k].toNat
      have hX := Chk.sumX_lt a x (s.size - k) s[k].toNat
      have hle : ∀ b : Bool, decide (Chk.sumT a s[k].toNat ≤ Chk.rot a) = b → decide ((Chk.sumT a s[k].toNat : Int) ≤ (Chk.rot a : Int)) = b := fun b h => by rw [← h]; congr 1; exact propext Int.ofNat_le
      have hv1 : Chk.sumT a s[k].toNat ≤ Chk.rot a → Hid (Chk.sumT a s[k].toNat ^^^ Chk.sumX a x (s.size - k) s[k].toNat = Chk.sumS a x (s.size - k) s[k].toNat) := fun h => (Chk.sumS_le h).symm
      have hv2 : ¬ Chk.sumT a s[k].toNat ≤ Chk.rot a → Hid (Chk.sumT a s[k].toNat = Chk.sumS a x (s.size - k) s[k].toNat) := fun h => (Chk.sumS_gt h).symm
      generalize Chk.sumS a x (s.size - k) s[k].toNat = z at *
      generalize Chk.sumX a x (s.size - k) s[k].toNat = y at *
      generalize Chk.sumT a s[k].toNat = t at *
      generalize Chk.rot a = r at *
      generalize (s.size - k) % 65536 = m at *
      generalize t ^^^ m = q at *
      by_cases hd : t ≤ r
      · have hd1 := decide_eq_true hd
        have hd2 := hle _ hd1
        have hsv := hv1 hd
        clear hle hv1 hv2
        go_wp2
        go_roundw
        case rel => exact ⟨k + 1, _, _, by omega, hS, hX, by rw [hsv.out], rfl, by go_num, hst, trivial⟩
        case measure => simp [intOf]; omega
      · have hd1 := decide_eq_false hd
        have hd2 := hle _ hd1
        have hsv := hv2 hd
        clear hle hv1 hv2
        go_wp2
        go_roundw
        case rel => exact ⟨k + 1, _, _, by omega, hS, hX, by rw [hsv.out], rfl, by go_num, hst, trivial⟩
        case measure => simp [intOf]; omega
    · have hall : Hid (a = Chk.sum s.data.toList) := by show _ = _; rw [← hsum.out, Chk.sumOn_all s k (by omega)]
      clear hsum
      go_wp2
      go_ret
      exact ⟨ret_i (by rw [hall.out]), rfl⟩

end Go.Proofs.Ytpgjdobgfhhbiaa
