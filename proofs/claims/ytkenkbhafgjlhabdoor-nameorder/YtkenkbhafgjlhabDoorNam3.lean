/-
  Walks of layer 3: kinds, Less, cut and the document's Grade, System, kind.
-/
import Derived.Test.YtkenkbhafgjlhabDoorNam2
import Derived.WalkMore
namespace Go.Proofs.YtkenkbhafgjlhabDoor
open Go.RowKit

set_option maxHeartbeats 1000000 in
theorem isFileKind_any (k : Int) (w : World) : Calls Tryd.prog 8 #[.int .i64 k] w fun e w' => e = .returned (.bool (Nam.fk k)) ∧ w' = w := by
  by_cases h67 : k = 67
  · subst h67
    go_enter Tryd.func8, Tryd.ntmps8
    go_wp2
    go_ret
    exact ⟨rfl, rfl⟩
  have d67 : (k == 67) = false := by rw [beq_eq_false_iff_ne]; exact h67
  by_cases h68 : k = 68
  · subst h68
    go_enter Tryd.func8, Tryd.ntmps8
    go_wp2
    go_ret
    exact ⟨rfl, rfl⟩
  have d68 : (k == 68) = false := by rw [beq_eq_false_iff_ne]; exact h68
  by_cases h69 : k = 69
  · subst h69
    go_enter Tryd.func8, Tryd.ntmps8
    go_wp2
    go_ret
    exact ⟨rfl, rfl⟩
  have d69 : (k == 69) = false := by rw [beq_eq_false_iff_ne]; exact h69
  by_cases h70 : k = 70
  · subst h70
    go_enter Tryd.func8, Tryd.ntmps8
    go_wp2
    go_ret
    exact ⟨rfl, rfl⟩
  have d70 : (k == 70) = false := by rw [beq_eq_false_iff_ne]; exact h70
  by_cases h79 : k = 79
  · subst h79
    go_enter Tryd.func8, Tryd.ntmps8
    go_wp2
    go_ret
    exact ⟨rfl, rfl⟩
  have d79 : (k == 79) = false := by rw [beq_eq_false_iff_ne]; exact h79
  by_cases h84 : k = 84
  · subst h84
    go_enter Tryd.func8, Tryd.ntmps8
    go_wp2
    go_ret
    exact ⟨rfl, rfl⟩
  have d84 : (k == 84) = false := by rw [beq_eq_false_iff_ne]; exact h84
  by_cases h85 : k = 85
  · subst h85
    go_enter Tryd.func8, Tryd.ntmps8
    go_wp2
    go_ret
    exact ⟨rfl, rfl⟩
  have d85 : (k == 85) = false := by rw [beq_eq_false_iff_ne]; exact h85
  by_cases h88 : k = 88
  · subst h88
    go_enter Tryd.func8, Tryd.ntmps8
    go_wp2
    go_ret
    exact ⟨rfl, rfl⟩
  have d88 : (k == 88) = false := by rw [beq_eq_false_iff_ne]; exact h88
  have hr : Hid (Nam.fk k = false) := by show _ = _; simp [Nam.fk, h67, h68, h69, h70, h79, h84, h85, h88]
  clear h67 h68 h69 h70 h79 h84 h85 h88
  go_enter Tryd.func8, Tryd.ntmps8
  go_wp2
  go_ret
  exact ⟨ret_bool hr.out.symm, rfl⟩

theorem ret_ss {a b c d : ByteArray} (h : a = c) (h' : b = d) : Ending.returned (.tuple #[.string a, .string b]) = .returned (.tuple #[.string c, .string d]) := by rw [h, h']
theorem extract_take (s : ByteArray) (k : Nat) : s.extract 0 k = ⟨(s.data.toList.take k).toArray⟩ := by
  apply ByteArray.ext; rw [ByteArray.data_extract]; apply Array.ext'; simp
theorem extract_drop (s : ByteArray) (k : Nat) : s.extract k s.size = ⟨(s.data.toList.drop k).toArray⟩ := by
  apply ByteArray.ext; rw [ByteArray.data_extract]; apply Array.ext'
  rw [Array.toList_extract, List.extract_eq_take_drop]
  exact List.take_of_length_le (by rw [List.length_drop, Oct.len_eq]; exact Nat.le_refl _)
theorem below_drewN {B : Nat} {w w' : World} (h : Below B w w') (q : Nat) : Below B w (w'.drewN q) := ⟨h.1, h.2, h.3, h.4, h.5⟩
theorem below_alloc1 (w : World) (a : Obj) : Below w.heap.size w (w.alloc a) := (Below.refl _ _).alloc (Nat.le_refl _) _
theorem below_alloc2 (w : World) (a b : Obj) : Below w.heap.size w ((w.alloc a).alloc b) := (below_alloc1 w a).alloc (below_alloc1 w a).size _
namespace Nam
def less (g n g' n' : Int) : Bool := if g = g' then decide (n < n') else decide (g < g')
end Nam
set_option maxHeartbeats 1000000 in
theorem less_any (g n g' n' : Int) (w : World) : Calls Tryd.prog 4 #[.agg #[.int .i64 g, .int .i64 n], .agg #[.int .i64 g', .int .i64 n']] w fun e w' => e = .returned (.bool (Nam.less g n g' n')) ∧ Below w.heap.size w w' := by
  by_cases h : g = g'
  · have hr : Hid (Nam.less g n g' n' = decide (n < n')) := by show _ = _; simp [Nam.less, h]
    subst h
    go_enter Tryd.func4, Tryd.ntmps4
    go_wp2
    go_ret
    exact ⟨ret_bool hr.out.symm, below_alloc2 _ _ _⟩
  · have hr : Hid (Nam.less g n g' n' = decide (g < g')) := by show _ = _; simp [Nam.less, h]
    have d : (g != g') = true := by rw [bne_iff_ne]; exact h
    clear h
    go_enter Tryd.func4, Tryd.ntmps4
    go_wp2
    go_ret
    exact ⟨ret_bool hr.out.symm, below_alloc2 _ _ _⟩

namespace Nam
theorem cut_at (s : ByteArray) (k : Nat) (h : k < s.size) (h1 : (s.data.toList.take k).all np = true) (h2 : s[k] = 46) : pre s.data.toList = s.data.toList.take k ∧ post s.data.toList = s.data.toList.drop (k + 1) := by
  have e : s.data.toList = s.data.toList.take k ++ 46 :: s.data.toList.drop (k + 1) := by
    have hl : k < s.data.toList.length := by rw [Oct.len_eq]; exact h
    have hd : s.data.toList.drop k = s.data.toList[k] :: s.data.toList.drop (k + 1) := List.drop_eq_getElem_cons hl
    have hk : s.data.toList[k] = 46 := h2
    rw [hk] at hd
    rw [← hd, List.take_append_drop]
  constructor
  · conv => lhs; rw [e]
    exact pre_app h1
  · conv => lhs; rw [e]
    exact post_app h1
theorem np_snoc (s : ByteArray) (k : Nat) (h : k < s.size) (h1 : (s.data.toList.take k).all np = true) (h2 : s[k] ≠ 46) : (s.data.toList.take (k + 1)).all np = true := by
  rw [Oct.take_snoc s k h, List.all_append, h1]; simp [np, h2]
end Nam

set_option maxHeartbeats 1000000 in
theorem cut_any (s : ByteArray) (w : World) (hs : s.size ≤ maxLen) :
    Calls Tryd.prog 12 #[.string s] w fun e w' => e = .returned (.tuple #[.string ⟨(Nam.pre s.data.toList).toArray⟩, .string ⟨(Nam.post s.data.toList).toArray⟩]) ∧ Below w.heap.size w w' := by
  unfold maxLen at hs
  go_enter Tryd.func12, Tryd.ntmps12
  go_wp2
  go_step3
  go_wp2
  go_step3
  go_wp2
  go_loop [4] (fun i => ∃ k : Nat, k ≤ s.size ∧ i = .int .i64 k ∧ Hid ((s.data.toList.take k).all Nam.np = true)) (fun i => s.size - (intOf i).toNat)
  case atStart => exact ⟨0, Nat.zero_le _, rfl, rfl⟩
  case round =>
    obtain ⟨k, hk, rfl, hall⟩ := hrel
    by_cases hlt : k < s.size
    · by_cases hc : s[k] = 46
      · have hv : Hid (Nam.pre s.data.toList = s.data.toList.take k ∧ Nam.post s.data.toList = s.data.toList.drop (k + 1)) := Nam.cut_at s k hlt hall.out hc
        have hb : ((s[k].toNat : Int) == 46) = true := by rw [hc]; rfl
        have he : ((k : Int) == (s.size : Int)) = false := by rw [beq_eq_false_iff_ne]; omega
        have he' : (k == s.size) = false := by rw [beq_eq_false_iff_ne]; omega
        clear hc
        go_wp2
        go_quiet (skip)
        go_wp2
        try rw [Exit.noGoto_ret]
        go_ret2
        exact ⟨ret_ss (by rw [hv.out.1]; exact extract_take s k) (by rw [hv.out.2]; exact extract_drop s (k + 1)), below_drewN (Below.refl _ _) _⟩
      · have hn : Hid ((s.data.toList.take (k + 1)).all Nam.np = true) := Nam.np_snoc s k hlt hall.out hc
        have hb : ((s[k].toNat : Int) == 46) = false := by
          rw [beq_eq_false_iff_ne]; intro h; exact hc (UInt8.toNat_inj.1 (by show s[k].toNat = 46; omega))
        clear hc
        go_wp2
        go_round
        case rel => exact ⟨k + 1, by omega, by go_num, hn⟩
        case measure => simp [intOf]; omega
    · obtain rfl : k = s.size := by omega
      have hv : Hid ((s.data.toList).all Nam.np = true) := by have := hall.out; rwa [Oct.take_all s s.size (Nat.le_refl _)] at this
      go_wp2
      try rw [Exit.noGoto_ret]
      go_ret2
      exact ⟨ret_ss (by rw [Nam.pre_all hv.out]) (by rw [Nam.post_all hv.out]), Below.refl _ _⟩
end Go.Proofs.YtkenkbhafgjlhabDoor
