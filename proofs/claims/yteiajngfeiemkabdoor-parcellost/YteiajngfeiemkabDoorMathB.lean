/-
  Plain mathematics of layer 1 (octet), second part: bytes as numbers (Get, Put).
-/
import Derived.Test.YteiajngfeiemkabDoorMathA
namespace Go.Proofs.YteiajngfeiemkabDoor
namespace Oct

/-- The number that bytes say, the highest first. -/
def be (l : List UInt8) : Nat := l.foldl (fun n c => n * 256 + c.toNat) 0
theorem be_snoc (l : List UInt8) (c : UInt8) : be (l ++ [c]) = be l * 256 + c.toNat := by unfold be; rw [List.foldl_append]; rfl
theorem foldBe_lt : ∀ (l : List UInt8) (a : Nat), l.foldl (fun n c => n * 256 + c.toNat) a < (a + 1) * 256 ^ l.length
  | [], a => by simp
  | c :: l, a => by
    have h2 := c.toNat_lt
    have h1 := foldBe_lt l (a * 256 + c.toNat)
    rw [List.foldl_cons, List.length_cons, Nat.pow_succ]
    refine Nat.lt_of_lt_of_le h1 ?_
    rw [Nat.mul_comm (256 ^ l.length) 256, ← Nat.mul_assoc]
    exact Nat.mul_le_mul_right _ (by omega)
theorem be_lt (l : List UInt8) : be l < 256 ^ l.length := by
  have := foldBe_lt l 0
  unfold be; simpa using this
theorem be_lt3 (l : List UInt8) (h : l.length ≤ 3) : be l < 16777216 := by
  have h2 := be_lt l
  have h4 : (256 : Nat) ^ l.length ≤ 256 ^ 3 := Nat.pow_le_pow_right (by omega) h
  have h5 : (256 : Nat) ^ 3 = 16777216 := by decide
  omega

/-- P1.3: the number at a place, and the error's number. -/
def get (l : List UInt8) (a size : Int) : Nat × Nat :=
  if size < 1 ∨ 4 < size ∨ a < 0 then (0, 1) else if (l.length : Int) - size < a then (0, 2) else (be ((l.drop a.toNat).take size.toNat), 0)
theorem get_arg {l : List UInt8} {a size : Int} (h : size < 1 ∨ 4 < size ∨ a < 0) : get l a size = (0, 1) := by unfold get; rw [if_pos h]
theorem get_short {l : List UInt8} {a size : Int} (h1 : 1 ≤ size) (h4 : size ≤ 4) (h0 : 0 ≤ a) (h : (l.length : Int) - size < a) : get l a size = (0, 2) := by
  unfold get; rw [if_neg (by omega), if_pos h]
theorem get_ok {l : List UInt8} {a size : Int} (h1 : 1 ≤ size) (h4 : size ≤ 4) (h0 : 0 ≤ a) (h : a ≤ (l.length : Int) - size) : get l a size = (be ((l.drop a.toNat).take size.toNat), 0) := by
  unfold get; rw [if_neg (by omega), if_neg (by omega)]
theorem be_step (s : ByteArray) (a k : Nat) (h : a + k < s.size) :
    be ((s.data.toList.drop a).take (k + 1)) = be ((s.data.toList.drop a).take k) * 256 + s[a + k].toNat := by
  have hl : k < (s.data.toList.drop a).length := by rw [List.length_drop, len_eq]; omega
  rw [List.take_succ_eq_append_getElem hl, be_snoc]
  congr 2
  rw [List.getElem_drop]; rfl
theorem be_take_lt (s : ByteArray) (a k : Nat) (hk : k ≤ 3) : be ((s.data.toList.drop a).take k) < 16777216 :=
  be_lt3 _ (by simp; omega)
end Oct
end Go.Proofs.YteiajngfeiemkabDoor
