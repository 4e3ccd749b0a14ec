/-
  Walk of layer 2: the document's Sum.
-/
import Derived.Test.YtpgjdobgfhhbiaaSums
namespace Go.Proofs.Ytpgjdobgfhhbiaa
open Go.RowKit

set_option maxHeartbeats 400000 in
theorem refSum_any (s : ByteArray) (w : World) (hs : s.size ≤ maxLen) :
    Calls Try.prog 38 #[.string s] w fun e w' => e = .returned (.int .i64 (Chk.sum s.data.toList)) ∧ w' = w := by
  have hml : s.size ≤ 9223372036854775807 := hs
  clear hs
  go_enter Try.func38, Try.ntmps38
  go_wp2
  go_loopw [3, 4, 5, 12] (fun v u n i wr => ∃ k a x : Nat, k ≤ s.size ∧ a < 65536 ∧ x < 65536 ∧ v = .int .i64 a ∧ u = .int .i64 x ∧ n = .int .i64 ((s.size - k : Nat) : Int) ∧ i = .int .i64 k ∧ Hid (Chk.sumOn (s.data.toList.drop k) a x = Chk.sum s.data.toList) ∧ wr = w) (fun _ _ _ i _ => s.size - (intOf i).toNat)
  case atStart => exact ⟨0, 65535, 0, Nat.zero_le _, by decide, by decide, rfl, rfl, by rw [Nat.sub_zero], rfl, rfl, rfl⟩
  case round =>
    obtain ⟨k, a, x, hk, ha, hx, rfl, rfl, rfl, rfl, hsum, rfl⟩ := hrel
    by_cases hlt : k < s.size
    · have hst : Hid (Chk.sumOn (s.data.toList.drop (k + 1)) (Chk.sumS a x (s.size - k) s[k].toNat) (Chk.sumX a x (s.size - k) s[k].toNat) = Chk.sum s.data.toList) := by
        show _ = _; rw [← Chk.sumOn_step s k hlt]; exact hsum.out
      clear hsum
      have hc := UInt8.toNat_lt s[k]
      have hrl := Chk.rot_lt ha
      have hn1 : 1 ≤ s.size - k := by omega
      have hn2 : s.size - k ≤ 9223372036854775807 := by omega
      have hnk : Hid (s.size - k - 1 = s.size - (k + 1)) := by show _ = _; omega
      have hS := Chk.sumS_lt a x (s.size - k) s[k].toNat
      have hX := Chk.sumX_lt a x (s.size - k) s[k].toNat
      generalize s.size - k = n at *
      have f1 := Chk.rot_i64 a ha
      have f3 : bits .and .i64 ((Chk.rot a : Int) + (s[k].toNat : Int)) 65535 = (Chk.sumT a s[k].toNat : Int) := by rw [Bit.and_i64_65535]; unfold Chk.sumT; omega
      have f4 : bits .and .i64 (n : Int) 65535 = ((n % 65536 : Nat) : Int) := by rw [Bit.and_i64_65535]; omega
      have f5 := Bit.xor_i64 (Chk.sumT a s[k].toNat) (n % 65536) (Nat.lt_trans (Chk.sumT_lt _ _) (by decide)) (Nat.lt_trans (Nat.mod_lt _ (by decide)) (by decide : 65536 < 4294967296))
      have f5l : Chk.sumT a s[k].toNat ^^^ n % 65536 < 65536 := Chk.xor16 (Chk.sumT_lt _ _) (Nat.mod_lt _ (by decide))
      have f6 : bits .and .i64 ((x : Int) + ((Chk.sumT a s[k].toNat ^^^ n % 65536 : Nat) : Int)) 65535 = (Chk.sumX a x n s[k].toNat : Int) := by rw [Bit.and_i64_65535]; unfold Chk.sumX; omega
      have f7 := Bit.xor_i64 (Chk.sumT a s[k].toNat) (Chk.sumX a x n s[k].toNat) (Nat.lt_trans (Chk.sumT_lt _ _) (by decide)) (Nat.lt_trans hX (by decide))
      have hle : ∀ b : Bool, decide (Chk.sumT a s[k].toNat ≤ Chk.rot a) = b → decide ((Chk.sumT a s[k].toNat : Int) ≤ (Chk.rot a : Int)) = b := fun b h => by rw [← h]; congr 1; exact propext Int.ofNat_le
      have hv1 : Chk.sumT a s[k].toNat ≤ Chk.rot a → Hid (Chk.sumT a s[k].toNat ^^^ Chk.sumX a x n s[k].toNat = Chk.sumS a x n s[k].toNat) := fun h => (Chk.sumS_le h).symm
      have hv2 : ¬ Chk.sumT a s[k].toNat ≤ Chk.rot a → Hid (Chk.sumT a s[k].toNat = Chk.sumS a x n s[k].toNat) := fun h => (Chk.sumS_gt h).symm
      generalize Chk.sumS a x n s[k].toNat = z at *
      generalize Chk.sumX a x n s[k].toNat = y at *
      generalize Chk.sumT a s[k].toNat = t at *
      generalize Chk.rot a = r at *
      generalize n % 65536 = m at *
      generalize t ^^^ m = q at *
      by_cases hd : t ≤ r
      · have hd1 := decide_eq_true hd
        have hd2 := hle _ hd1
        have hsv := hv1 hd
        clear hle hv1 hv2
        go_wp2
        go_roundw
        case rel => exact ⟨k + 1, _, _, by omega, hS, hX, by rw [hsv.out], rfl, by rw [← hnk.out]; go_num, by go_num, hst, trivial⟩
        case measure => simp [intOf]; omega
      · have hd1 := decide_eq_false hd
        have hd2 := hle _ hd1
        have hsv := hv2 hd
        clear hle hv1 hv2
        go_wp2
        go_roundw
        case rel => exact ⟨k + 1, _, _, by omega, hS, hX, by rw [hsv.out], rfl, by rw [← hnk.out]; go_num, by go_num, hst, trivial⟩
        case measure => simp [intOf]; omega
    · have hall : Hid (a = Chk.sum s.data.toList) := by show _ = _; rw [← hsum.out, Chk.sumOn_all s k (by omega)]
      clear hsum
      go_wp2
      go_ret
      exact ⟨ret_i (by rw [hall.out]), rfl⟩
end Go.Proofs.Ytpgjdobgfhhbiaa
