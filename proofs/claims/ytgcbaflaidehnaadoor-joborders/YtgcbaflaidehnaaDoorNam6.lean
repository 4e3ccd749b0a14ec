/-
  Walks of layer 3: the document's Note and File, File, ParseId, the document's ParseId.
-/
import Derived.Test.YtgcbaflaidehnaaDoorNam5
namespace Go.Proofs.YtgcbaflaidehnaaDoor
open Go.RowKit

namespace Nam
theorem file_kind {k : Int} {s : List UInt8} {g n : Int} (h : fk k = false) : file k s g n = ([], 1) := by unfold file; rw [if_pos h]
theorem file_sys {k : Int} {s : List UInt8} {g n : Int} (h : fk k = true) (h2 : system s = false) : file k s g n = ([], 11) := by unfold file; rw [if_neg (by simp [h]), if_pos h2]
theorem file_id {k : Int} {s : List UInt8} {g n : Int} (h : fk k = true) (h2 : system s = true) (h3 : may g n = false) : file k s g n = ([], 1) := by
  unfold file; rw [if_neg (by simp [h]), if_neg (by simp [h2]), if_pos h3]
theorem file_ok {k : Int} {s : List UInt8} {g n : Int} (h : fk k = true) (h2 : system s = true) (h3 : may g n = true) : file k s g n = (fileT k s g n, 0) := by
  unfold file; rw [if_neg (by simp [h]), if_neg (by simp [h2]), if_neg (by simp [h3])]
end Nam
theorem fileT_ba (k : Int) (s : ByteArray) (g n : Int) : (⟨(Nam.sysT k s.data.toList).toArray⟩ ++ ⟨#[46]⟩ ++ ⟨(Nam.idT g n).toArray⟩ : ByteArray) = ⟨(Nam.fileT k s.data.toList g n).toArray⟩ := by
  refine ((congrArg (· ++ (⟨(Nam.idT g n).toArray⟩ : ByteArray)) (ba_app (Nam.sysT k s.data.toList) [46])).trans (ba_app _ _)).trans ?_
  unfold Nam.fileT; simp
theorem idT_len {g n : Int} (hm : Nam.may g n = true) : (Nam.idT g n).length ≤ 6 := by
  obtain ⟨_, h1, h2⟩ := Nam.may_iff.1 hm
  have := Nam.itoa_len h1 h2
  unfold Nam.idT; rw [List.length_cons]; omega
theorem sysT_len (k : Int) (s : ByteArray) (h : s.size ≤ 7) : (Nam.sysT k s.data.toList).length ≤ 9 := by
  unfold Nam.sysT; rw [List.length_cons, List.length_cons, Oct.len_eq]; omega

end Go.Proofs.YtgcbaflaidehnaaDoor
