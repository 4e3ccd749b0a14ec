/-
  What Read's head says: numbers and bytes.
-/
import Derived.Test.YtpgjdobgfhhbiaaGw8
namespace Go.Proofs.Ytpgjdobgfhhbiaa
open Go.RowKit
namespace Gf
theorem sum_or {l h : Nat} (hl : l < 256) (hh : h < 256) : bits .or .i64 (l : Int) ((h : Int) * 256) = ((l + 256 * h : Nat) : Int) := by
  have e := Bit.or_i64 l (h * 256) (by omega) (by omega)
  have a : l ||| h * 256 = l + 256 * h := by
    have := Nat.two_pow_add_eq_or_of_lt (i := 8) (b := l) (by omega) h
    rw [Nat.or_comm, Nat.mul_comm h 256]; rw [show l + 256 * h = 2 ^ 8 * h + l by omega]; exact this.symm
  rw [a] at e
  rw [← e]; congr 1
theorem head_list (s : ByteArray) (h6 : 6 ≤ s.size) : (s.extract 0 6).data.toList = [s[0], s[1], s[2], s[3], s[4], s[5]] := by
  rw [extract_eq s 0 6 (by omega) h6]
  have e := list6 s h6
  generalize s.data.toList.drop 6 = r at e
  rw [e]
  rfl
theorem head_both {k l h c x : UInt8} : head k.toNat (l.toNat + 256 * h.toNat) c.toNat = [16, k, l, h, c, x] ↔ k.toNat ^^^ l.toNat ^^^ h.toNat ^^^ c.toNat = x.toNat := by
  constructor
  · intro e
    have hl := UInt8.toNat_lt l
    unfold head at e
    rw [show (l.toNat + 256 * h.toNat) % 256 = l.toNat by omega, show (l.toNat + 256 * h.toNat) / 256 = h.toNat by omega] at e
    have e5 : UInt8.ofNat (k.toNat ^^^ l.toNat ^^^ h.toNat ^^^ c.toNat) = x := by
      have := congrArg (fun y : List UInt8 => y.getD 5 0) e
      exact this
    rw [← e5, ofNat_toNat (xor_byte _ _ _ _ (UInt8.toNat_lt k) hl (UInt8.toNat_lt h) (UInt8.toNat_lt c))]
  · exact head_bytes
theorem head_dec (s : ByteArray) (h6 : 6 ≤ s.size) (h16 : s[0].toNat = 16) : ((⟨(head s[1].toNat (s[2].toNat + 256 * s[3].toNat) s[4].toNat).toArray⟩ : ByteArray).toList == (s.extract 0 6).toList) = decide (s[1].toNat ^^^ s[2].toNat ^^^ s[3].toNat ^^^ s[4].toNat = s[5].toNat) := by
  have h0 : s[0] = 16 := UInt8.toNat_inj.1 h16
  rw [tl_eq, tl_eq, head_list s h6, h0, Bool.eq_iff_iff, beq_iff_eq, decide_eq_true_iff]
  exact head_both
theorem hi_and (c : Nat) : bits .and .i64 ((c : Int) / 8) 7 = ((c / 8 % 8 : Nat) : Int) := by
  have := Bit.and_i64_mask ((c : Int) / 8) 3 7 (by decide) (by decide)
  exact this.trans (by omega)
theorem lo_and (c : Nat) : bits .and .i64 (c : Int) 7 = ((c % 8 : Nat) : Int) := by
  have := Bit.and_i64_mask (c : Int) 3 7 (by decide) (by decide)
  exact this.trans (by omega)
end Gf
end Go.Proofs.Ytpgjdobgfhhbiaa
