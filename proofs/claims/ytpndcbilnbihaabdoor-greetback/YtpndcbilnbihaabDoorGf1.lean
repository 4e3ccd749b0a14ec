/-
  Layer 9: Offer, ParseOffer; the document's letters, Offer, ParseOffer, Choose.
-/
import Derived.Test.YtpndcbilnbihaabDoorGs1
namespace Go.Proofs.YtpndcbilnbihaabDoor
open Go.RowKit

namespace Gr
/-- P9.6 -/
def offer (s : ByteArray) : ByteArray × Int := if lets s.data.toList = true then (⟨#[80]⟩ ++ s, 0) else (⟨#[]⟩, 1)
def poffer (s : ByteArray) : ByteArray × Int := if Lib.hasPrefix s.data.toList [80] = true ∧ lets (s.data.toList.drop 1) = true then (⟨(s.data.toList.drop 1).toArray⟩, 0) else (⟨#[]⟩, 3)
theorem trim1 {s : ByteArray} (h : Lib.hasPrefix s.data.toList [80] = true) : Lib.trimPrefix s.data.toList [80] = s.data.toList.drop 1 := by unfold Lib.trimPrefix; rw [if_pos h]; rfl
theorem pre1 (s : ByteArray) (h : 0 < s.size) : Lib.hasPrefix s.data.toList [80] = (s[0] == 80) := by
  have := drop_at s 0 h
  rw [List.drop_zero] at this
  rw [this]
  unfold Lib.hasPrefix
  simp only [List.isPrefixOf, Bool.and_true]
  exact Bool.beq_comm
theorem pre1_nil (s : ByteArray) (h : ¬ 0 < s.size) : Lib.hasPrefix s.data.toList [80] = false := by
  have := drop_end s 0 h
  rw [List.drop_zero] at this
  rw [this]; rfl
theorem drop1_len (s : ByteArray) (h : s.size ≤ 1) : s.data.toList.drop 1 = [] := drop_end s 1 (by omega)
theorem mem_take (s : ByteArray) (k i : Nat) (hk : k < i) (hi : i < s.size) (h : s[k] = s[i]) : s[i] ∈ s.data.toList.take i := by
  rw [← h, List.mem_take_iff_getElem]
  have hz : s.data.size = s.size := rfl
  exact ⟨k, by rw [Array.length_toList]; omega, rfl⟩
theorem not_take_snoc (s : ByteArray) (k : Nat) (h : k < s.size) (c : UInt8) (h1 : ¬ c ∈ s.data.toList.take k) (h2 : ¬ s[k] = c) : ¬ c ∈ s.data.toList.take (k + 1) := by
  rw [Oct.take_snoc s k h]
  simp only [List.mem_append, List.mem_singleton, not_or]
  exact ⟨h1, fun e => h2 e.symm⟩
theorem byte_eq {a b : UInt8} (h : (a.toNat : Int) = (b.toNat : Int)) : a = b := UInt8.toNat_inj.1 (by omega)
end Gr

end Go.Proofs.YtpndcbilnbihaabDoor
