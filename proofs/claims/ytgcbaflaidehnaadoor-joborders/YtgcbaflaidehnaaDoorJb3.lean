/-
  Walks of layer 5: the document's user and word.
-/
import Derived.Test.YtgcbaflaidehnaaDoorJb2
namespace Go.Proofs.YtgcbaflaidehnaaDoor
open Go.RowKit

namespace Job
theorem head_at {p : ByteArray} (h : 0 < p.size) : p.data.toList.head? = some p[0] := by
  have e := Oct.headD_at p h
  have hl := Oct.len_eq p
  cases hp : p.data.toList with
  | nil => rw [hp] at hl; simp at hl; omega
  | cons a r => rw [hp] at e; simp only [List.headD_cons] at e; rw [List.head?_cons, e]
theorem last_at {p : ByteArray} (h : 0 < p.size) : p.data.toList.getLast? = some (p[p.size - 1]'(by omega)) := by
  rw [List.getLast?_eq_getElem?, Oct.len_eq, Array.getElem?_toList, Array.getElem?_eq_getElem (by show p.size - 1 < p.size; omega)]
  rfl
theorem some_eq (c : UInt8) : ((some c : Option UInt8) == some 32) = ((c.toNat : Int) == 32) := by
  by_cases h : c = 32
  · subst h; rfl
  · have h1 : ¬ ((c.toNat : Int) = 32) := fun q => h (UInt8.toNat_inj.1 (by have : (32 : UInt8).toNat = 32 := rfl; omega))
    have a : ((some c : Option UInt8) == some 32) = false := by simpa using h
    have b : ((c.toNat : Int) == 32) = false := by simpa using h1
    rw [a, b]
theorem wrd_long {s : ByteArray} (h : 60 < s.size) : wrd s.data.toList = false := by
  unfold wrd
  rw [Oct.len_eq]
  have : decide (s.size ≤ 60) = false := by simp; omega
  rw [this, Bool.and_false]
theorem wrd_empty {s : ByteArray} (h : (s.toList == []) = true) : wrd s.data.toList = false := by
  rw [tl_eq] at h
  rw [eq_of_beq h]; rfl
theorem wrd_first {s : ByteArray} (h : (s.data.toList.head? == some 32) = true) : wrd s.data.toList = false := by
  unfold wrd; rw [h]; simp
theorem wrd_last {s : ByteArray} (h : (s.data.toList.getLast? == some 32) = true) : wrd s.data.toList = false := by
  unfold wrd; rw [h]; simp
end Job

end Go.Proofs.YtgcbaflaidehnaaDoor
