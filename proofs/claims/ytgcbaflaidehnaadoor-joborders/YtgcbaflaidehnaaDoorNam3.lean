/-
  Walks of layer 3: kinds, Less, cut and the document's Grade, System, kind.
-/
import Derived.Test.YtgcbaflaidehnaaDoorNam2
import Derived.WalkMore
namespace Go.Proofs.YtgcbaflaidehnaaDoor
open Go.RowKit

theorem ret_ss {a b c d : ByteArray} (h : a = c) (h' : b = d) : Ending.returned (.tuple #[.string a, .string b]) = .returned (.tuple #[.string c, .string d]) := by rw [h, h']
theorem extract_take (s : ByteArray) (k : Nat) : s.extract 0 k = ⟨(s.data.toList.take k).toArray⟩ := by
  apply ByteArray.ext; rw [ByteArray.data_extract]; apply Array.ext'; simp
theorem extract_drop (s : ByteArray) (k : Nat) : s.extract k s.size = ⟨(s.data.toList.drop k).toArray⟩ := by
  apply ByteArray.ext; rw [ByteArray.data_extract]; apply Array.ext'
  rw [Array.toList_extract, List.extract_eq_take_drop]
  exact List.take_of_length_le (by rw [List.length_drop, Oct.len_eq]; exact Nat.le_refl _)
theorem below_drewN {B : Nat} {w w' : World} (h : Below B w w') (q : Nat) : Below B w (w'.drewN q) := ⟨h.1, h.2, h.3, h.4, h.5⟩
theorem below_alloc1 (w : World) (a : Obj) : Below w.heap.size w (w.alloc a) := (Below.refl _ _).alloc (Nat.le_refl _) _
theorem below_alloc2 (w : World) (a b : Obj) : Below w.heap.size w ((w.alloc a).alloc b) := (below_alloc1 w a).alloc (below_alloc1 w a).size _
namespace Nam
def less (g n g' n' : Int) : Bool := if g = g' then decide (n < n') else decide (g < g')
end Nam
set_option maxHeartbeats 1000000 in
theorem less_any (g n g' n' : Int) (w : World) : Calls Tryd.prog 22 #[.agg #[.int .i64 g, .int .i64 n], .agg #[.int .i64 g', .int .i64 n']] w fun e w' => e = .returned (.bool (Nam.less g n g' n')) ∧ Below w.heap.size w w' := by
  by_cases h : g = g'
  · have hr : Hid (Nam.less g n g' n' = decide (n < n')) := by show _ = _; simp [Nam.less, h]
    subst h
    go_enter Tryd.func22, Tryd.ntmps22
    go_wp2
    go_ret
    exact ⟨ret_bool hr.out.symm, below_alloc2 _ _ _⟩
  · have hr : Hid (Nam.less g n g' n' = decide (g < g')) := by show _ = _; simp [Nam.less, h]
    have d : (g != g') = true := by rw [bne_iff_ne]; exact h
    clear h
    go_enter Tryd.func22, Tryd.ntmps22
    go_wp2
    go_ret
    exact ⟨ret_bool hr.out.symm, below_alloc2 _ _ _⟩

namespace Nam
theorem cut_at (s : ByteArray) (k : Nat) (h : k < s.size) (h1 : (s.data.toList.take k).all np = true) (h2 : s[k] = 46) : pre s.data.toList = s.data.toList.take k ∧ post s.data.toList = s.data.toList.drop (k + 1) := by
  have e : s.data.toList = s.data.toList.take k ++ 46 :: s.data.toList.drop (k + 1) := by
    have hl : k < s.data.toList.length := by rw [Oct.len_eq]; exact h
    have hd : s.data.toList.drop k = s.data.toList[k] :: s.data.toList.drop (k + 1) := List.drop_eq_getElem_cons hl
    have hk : s.data.toList[k] = 46 := h2
    rw [hk] at hd
    rw [← hd, List.take_append_drop]
  constructor
  · conv => lhs; rw [e]
    exact pre_app h1
  · conv => lhs; rw [e]
    exact post_app h1
theorem np_snoc (s : ByteArray) (k : Nat) (h : k < s.size) (h1 : (s.data.toList.take k).all np = true) (h2 : s[k] ≠ 46) : (s.data.toList.take (k + 1)).all np = true := by
  rw [Oct.take_snoc s k h, List.all_append, h1]; simp [np, h2]
end Nam

end Go.Proofs.YtgcbaflaidehnaaDoor
