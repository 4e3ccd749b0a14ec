/-
  Plain mathematics of layer 1 (octet), fourth part: a quoted text.
-/
import Derived.Test.YtakgmpebgaiinabDoorMathC
namespace Go.Proofs.YtakgmpebgaiinabDoor
namespace Oct
/-- Does a byte (as a number) stand as it is? -/
def plainI (x : Int) : Bool := decide (33 ≤ x ∧ x ≤ 126 ∧ x ≠ 92)
def plain (c : UInt8) : Bool := plainI (c.toNat : Int)
theorem plainI_iff {x : Int} : plainI x = true ↔ 33 ≤ x ∧ x ≤ 126 ∧ x ≠ 92 := by unfold plainI; exact decide_eq_true_iff
theorem plainI_not {x : Int} : plainI x = false ↔ ¬ (33 ≤ x ∧ x ≤ 126 ∧ x ≠ 92) := by unfold plainI; exact decide_eq_false_iff_not
/-- A small hexadecimal digit. -/
def hexc (n : Nat) : UInt8 := UInt8.ofNat (if n < 10 then 48 + n else 87 + n)
def q1 (c : UInt8) : List UInt8 := if plain c then [c] else [92, hexc (c.toNat / 16), hexc (c.toNat % 16)]
def quote (l : List UInt8) : List UInt8 := l.flatMap q1
theorem quote_snoc (l : List UInt8) (c : UInt8) : quote (l ++ [c]) = quote l ++ q1 c := by simp [quote, List.flatMap_append]
theorem q1_yes {c : UInt8} (h : plain c = true) : q1 c = [c] := by unfold q1; rw [if_pos h]
theorem q1_no {c : UInt8} (h : plain c = false) : q1 c = [92, hexc (c.toNat / 16), hexc (c.toNat % 16)] := by unfold q1; rw [if_neg (by simp [h])]
theorem q1_len (c : UInt8) : (q1 c).length ≤ 3 := by unfold q1; split <;> simp
theorem quote_len (l : List UInt8) : (quote l).length ≤ 3 * l.length := by
  induction l with
  | nil => simp [quote]
  | cons a r ih =>
    have h := q1_len a
    have e : quote (a :: r) = q1 a ++ quote r := rfl
    rw [e, List.length_append, List.length_cons]; omega
theorem quote_take_len (s : ByteArray) (k : Nat) : (quote (s.data.toList.take k)).length ≤ 3 * s.size := by
  have h1 := quote_len (s.data.toList.take k)
  have h2 : (s.data.toList.take k).length ≤ s.data.toList.length := by simp; omega
  have h3 := len_eq s
  omega
def hexS : ByteArray := ⟨#[48, 49, 50, 51, 52, 53, 54, 55, 56, 57, 97, 98, 99, 100, 101, 102]⟩
theorem hexS_fin : ∀ n : Fin 16, hexS.data.toList.getD n.val 0 = hexc n.val := by decide +kernel
theorem hexAt (n : Nat) (h : n < (⟨#[48, 49, 50, 51, 52, 53, 54, 55, 56, 57, 97, 98, 99, 100, 101, 102]⟩ : ByteArray).size) : (⟨#[48, 49, 50, 51, 52, 53, 54, 55, 56, 57, 97, 98, 99, 100, 101, 102]⟩ : ByteArray)[n] = hexc n := by
  have h16 : n < 16 := h
  rw [← hexS_fin ⟨n, h16⟩]
  have e : hexS.data.toList.getD n 0 = hexS.data.toList[n]'(by exact h16) := by rw [List.getD_eq_getElem?_getD, List.getElem?_eq_getElem (by exact h16)]; rfl
  rw [e]; rfl
theorem hexc_fin : ∀ n : Fin 16, (hexc n.val).toNat = (if n.val < 10 then 48 + n.val else 87 + n.val) := by decide +kernel
theorem hexc_nat (n : Nat) (h : n < 16) : (hexc n).toNat = (if n < 10 then 48 + n else 87 + n) := hexc_fin ⟨n, h⟩
end Oct
end Go.Proofs.YtakgmpebgaiinabDoor
