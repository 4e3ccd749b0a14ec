/-
  Walks of layer 3: System, isFileKind, isNoteKind, Less and the document's Grade, System, kind.
-/
import Derived.Test.YtgcbaflaidehnaaDoorNam1
import Derived.Deep.QuietTactic
import Derived.BigQuiet
namespace Go.Proofs.YtgcbaflaidehnaaDoor
open Go.RowKit
namespace Nam
theorem system_empty {l : List UInt8} (h : l.length = 0) : system l = false := by simp [system, h]
theorem system_long {l : List UInt8} (h : 7 < l.length) : system l = false := by
  have : ¬ l.length ≤ 7 := by omega
  simp [system, this]
theorem system_dig {l : List UInt8} (h : dg ((l.headD 0).toNat : Int) = true) : system l = false := by unfold system; rw [h]; simp
theorem system_not {l : List UInt8} {c : UInt8} (h : c ∈ l) (hc : okc c = false) : system l = false := by
  have : l.all okc = false := by rw [List.all_eq_false]; exact ⟨c, h, by simp [hc]⟩
  simp [system, this]
theorem system_yes {l : List UInt8} (h0 : 1 ≤ l.length) (h1 : l.length ≤ 7) (h2 : dg ((l.headD 0).toNat : Int) = false) (h3 : l.all okc = true) : system l = true := by
  simp only [system, h0, h1, h2, h3, decide_true, Bool.and_self, Bool.not_false]
theorem okc_snoc (s : ByteArray) (k : Nat) (h : k < s.size) (h1 : (s.data.toList.take k).all okc = true) (h2 : okc s[k] = true) : (s.data.toList.take (k + 1)).all okc = true := by
  rw [Oct.take_snoc s k h, List.all_append, h1]; simp [h2]
end Nam

theorem wrap_byte (c : UInt8) : wrap64 (c.toNat : Int) = (c.toNat : Int) := by
  have := c.toNat_lt; unfold wrap64; omega
theorem isDigit_byte (c : UInt8) (w : World) : Calls Tryd.prog 50 #[.int .i64 (wrap64 (c.toNat : Int))] w fun e w' => e = .returned (.bool (Nam.dg (c.toNat : Int))) ∧ w' = w := by
  rw [wrap_byte]; exact isDigit_any _ w
theorem isSmall_byte (c : UInt8) (w : World) : Calls Tryd.prog 52 #[.int .i64 (wrap64 (c.toNat : Int))] w fun e w' => e = .returned (.bool (Nam.sm (c.toNat : Int))) ∧ w' = w := by
  rw [wrap_byte]; exact isSmall_any _ w

end Go.Proofs.YtgcbaflaidehnaaDoor
