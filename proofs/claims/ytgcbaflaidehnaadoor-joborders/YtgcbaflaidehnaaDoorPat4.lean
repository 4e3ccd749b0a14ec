/-
  Walks of layer 4: the document's Check, Under and the document's Under.
-/
import Derived.Test.YtgcbaflaidehnaaDoorPat3
namespace Go.Proofs.YtgcbaflaidehnaaDoor
open Go.RowKit

theorem owned_texts {w : World} {B : Nat} {v : Value} {l : List ByteArray} (h : w.ownsRow B 9 1 v l.length (l.map Value.string)) (h0 : l ≠ []) :
    ∃ g cap : Nat, v = .slice (some ⟨g, 0, none⟩) l.length cap ∧ B ≤ g ∧ g < w.heap.size ∧ l.length ≤ cap ∧ cap ≤ maxLen ∧ Texts w g l := by
  rcases h.2 with ⟨_, hn⟩ | ⟨g, cap, cur, rfl, hB, hb, hn, hm, hcs, htk⟩
  · exact absurd (List.eq_nil_of_length_eq_zero hn) h0
  · refine ⟨g, cap, rfl, hB, ?_, hn, hm, fun i hi => ?_⟩
    · rcases Nat.lt_or_ge g w.heap.size with h' | h'
      · exact h'
      · simp [Array.getElem?_eq_none h'] at hb
    · rw [Lib.cell_of_heap hb i]
      have h2 : (cur.toList.take (l.length * 1))[i]? = (l.map Value.string)[i]? := by rw [htk]
      rw [List.getElem?_take_of_lt (by omega)] at h2
      rw [← Array.getElem?_toList, h2]
      simp [hi]

theorem cut_ne {p : ByteArray} {l : List ByteArray} (h : l.map (fun s : ByteArray => s.data.toList) = Pth.spl p.data.toList.tail) : l ≠ [] := by
  intro e; subst e; exact Pth.spl_ne _ h.symm

theorem part_no {p : ByteArray} {l : List ByteArray} (h : l.map (fun s : ByteArray => s.data.toList) = Pth.spl p.data.toList.tail) {k : Nat} (hk : k < l.length) : (47 : UInt8) ∉ l[k].data.toList := by
  have hm : l[k].data.toList ∈ Pth.spl p.data.toList.tail := by rw [← h]; exact List.mem_map.2 ⟨l[k], List.getElem_mem hk, rfl⟩
  exact Pth.spl_no _ _ hm

/-- the first byte of a text, as the document's functions ask for it -/
theorem head_at {p : ByteArray} (h : 0 < p.size) : p.data.toList.head? = some p[0] := by
  cases hp : p.data.toList with
  | nil => have := Oct.len_eq p; rw [hp] at this; simp at this; omega
  | cons c t =>
    have e : p[0] = p.data.toList[0]'(by simpa using h) := rfl
    rw [e]; simp [hp]

namespace Pth
theorem under_no1 {r p : Bs} (h : chk r ≠ 0) : under r p = false := by simp [under, h]
theorem under_no2 {r p : Bs} (h : chk p ≠ 0) : under r p = false := by simp [under, h]
theorem under_at {r p : Bs} (h1 : chk r = 0) (h2 : chk p = 0) : under r p = (p == r || r == [47] || (r ++ [47]).isPrefixOf p) := by simp [under, h1, h2]
end Pth

/-- an Errno that is not 0 -/
theorem ne_facts {n : Nat} (h : n ≠ 0) : ((n : Int) != 0) = true ∧ ((n : Int) == 0) = false ∧ (n != 0) = true ∧ (n == 0) = false := by
  refine ⟨?_, ?_, ?_, ?_⟩
  · rw [bne_iff_ne]; omega
  · rw [beq_eq_false_iff_ne]; omega
  · rw [bne_iff_ne]; omega
  · rw [beq_eq_false_iff_ne]; omega

end Go.Proofs.YtgcbaflaidehnaaDoor
