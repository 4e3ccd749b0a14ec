/-
  Layer 8: the document's Print.
-/
import Derived.Test.YteepfifglafjmaaDoorPr9
namespace Go.Proofs.YteepfifglafjmaaDoor
open Go.RowKit

namespace Ch
theorem wr8_yes {send : Bool} {s : ByteArray} (h : saidT s = true) : wr8 send s.data.toList = ((if send = true then putN s.data.toList else putT s.data.toList), true) := by
  unfold wr8; rw [if_pos (show s.data.toList.all said = true from h)]
theorem wr8_no {send : Bool} {s : ByteArray} (h : saidT s = false) : wr8 send s.data.toList = ([], false) := by
  unfold wr8; rw [if_neg (by show ¬ saidT s = true; rw [h]; decide)]
/-- what the document has written of a step's texts -/
def rw8 (ws ns : List ByteArray) (i : Nat) : List UInt8 := putWs ws ns i ++ (if 0 < i ∧ i - 1 < ns.length then 45 :: putN (ns.getD (i - 1) ⟨#[]⟩).data.toList else [])
theorem rw8_zero (ws ns : List ByteArray) : rw8 ws ns 0 = [] := by simp [rw8, putWs]
theorem rw8_end (ws ns : List ByteArray) (h : ns.length + 1 = ws.length) : rw8 ws ns ws.length = putWs ws ns ws.length := by
  unfold rw8; rw [if_neg (by omega)]; simp
theorem rw8_step (ws ns : List ByteArray) (j : Nat) (h : ns.length + 1 = ws.length) (hj : j < ws.length) : rw8 ws ns (j + 1) = rw8 ws ns j ++ ((if 0 < j then [45] else []) ++ (putT (ws[j]).data.toList ++ (if hn : j < ns.length then 45 :: putN (ns[j]).data.toList else []))) := by
  have hg : ws.getD j ⟨#[]⟩ = ws[j] := by rw [List.getD_eq_getElem?_getD, List.getElem?_eq_getElem hj]; rfl
  unfold rw8
  simp only [putWs, putW, hg, Nat.add_sub_cancel]
  by_cases h0 : 0 < j
  · rw [if_pos h0, if_pos (by omega : 0 < j ∧ j - 1 < ns.length), if_pos h0]
    by_cases hn : j < ns.length
    · have hgn : ns.getD j ⟨#[]⟩ = ns[j] := by rw [List.getD_eq_getElem?_getD, List.getElem?_eq_getElem hn]; rfl
      rw [if_pos ⟨by omega, hn⟩, dif_pos hn, hgn]; simp
    · rw [if_neg (by omega), dif_neg hn]; simp
  · rw [if_neg h0, if_neg (by omega : ¬ (0 < j ∧ j - 1 < ns.length)), if_neg h0]
    by_cases hn : j < ns.length
    · have hgn : ns.getD j ⟨#[]⟩ = ns[j] := by rw [List.getD_eq_getElem?_getD, List.getElem?_eq_getElem hn]; rfl
      rw [if_pos ⟨by omega, hn⟩, dif_pos hn, hgn]; simp
    · rw [if_neg (by omega), dif_neg hn]; simp
theorem rw8_len (ws ns : List ByteArray) (h1 : ∀ s ∈ ws, s.size ≤ 6000) (h2 : ∀ s ∈ ns, s.size ≤ 6000) (i : Nat) : (rw8 ws ns i).length ≤ i * 25000 + 13000 := by
  have a := putWs_len ws ns h1 h2 i
  unfold rw8
  rw [List.length_append]
  split
  · have b := putN_len (ns.getD (i - 1) ⟨#[]⟩).data.toList
    have c : (ns.getD (i - 1) ⟨#[]⟩).data.toList.length ≤ 6000 := by
      rw [List.getD_eq_getElem?_getD]
      cases hk : ns[i - 1]? with
      | none => exact Nat.zero_le _
      | some y => exact h2 y (List.mem_of_getElem? hk)
    rw [List.length_cons]; omega
  · rw [List.length_nil, Nat.add_zero]; exact Nat.le_trans a (Nat.le_add_right _ _)
theorem chkSt_arg {x : St} (h : x.wants.length < 1 ∨ 300 < x.wants.length ∨ x.nudge.length + 1 ≠ x.wants.length) : chkSt x = 1 := by unfold chkSt; rw [if_pos h]
theorem chkSt_form {x : St} (h0 : 1 ≤ x.wants.length) (h1 : x.wants.length ≤ 300) (h2 : x.nudge.length + 1 = x.wants.length) (h : (x.wants.all saidT && x.nudge.all saidT && saidT x.send) = false) : chkSt x = 3 := by
  unfold chkSt; rw [if_neg (by omega), if_pos h]
theorem chkSt_fine {x : St} (h0 : 1 ≤ x.wants.length) (h1 : x.wants.length ≤ 300) (h2 : x.nudge.length + 1 = x.wants.length) (h : (x.wants.all saidT && x.nudge.all saidT && saidT x.send) = true) : chkSt x = 0 := by
  unfold chkSt; rw [if_neg (by omega), if_neg (by rw [h]; decide)]
end Ch
theorem ba_size (O : ByteArray) {l : List UInt8} (h : O.data.toList = l) : O.size = l.length := by rw [← h]; rfl
end Go.Proofs.YteepfifglafjmaaDoor
