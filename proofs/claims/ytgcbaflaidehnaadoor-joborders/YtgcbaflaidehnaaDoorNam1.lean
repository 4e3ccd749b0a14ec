/-
  Walks of layer 3: isDigit, isGreat, isSmall, Grade, System, mayBe, isFileKind, isNoteKind, Less and the document's Grade, System, kind.
-/
import Derived.Test.YtgcbaflaidehnaaDoorNum
import Derived.Test.YtgcbaflaidehnaaDoorMathBun
namespace Go.Proofs.YtgcbaflaidehnaaDoor
open Go.RowKit

theorem isDigit_any (c : Int) (w : World) : Calls Tryd.prog 50 #[.int .i64 c] w fun e w' => e = .returned (.bool (Nam.dg c)) ∧ w' = w := by
  by_cases h0 : 48 ≤ c
  · by_cases h1 : c ≤ 57
    · have hr : Hid (Nam.dg c = true) := by show _ = _; simp [Nam.dg, h0, h1]
      go_enter Tryd.func50, Tryd.ntmps50
      go_wp2
      go_ret
      exact ⟨ret_bool hr.out.symm, rfl⟩
    · have hr : Hid (Nam.dg c = false) := by show _ = _; simp [Nam.dg, h1]
      go_enter Tryd.func50, Tryd.ntmps50
      go_wp2
      go_ret
      exact ⟨ret_bool hr.out.symm, rfl⟩
  · have hr : Hid (Nam.dg c = false) := by show _ = _; simp [Nam.dg, h0]
    go_enter Tryd.func50, Tryd.ntmps50
    go_wp2
    go_ret
    exact ⟨ret_bool hr.out.symm, rfl⟩
theorem isGreat_any (c : Int) (w : World) : Calls Tryd.prog 51 #[.int .i64 c] w fun e w' => e = .returned (.bool (Nam.gt c)) ∧ w' = w := by
  by_cases h0 : 65 ≤ c
  · by_cases h1 : c ≤ 90
    · have hr : Hid (Nam.gt c = true) := by show _ = _; simp [Nam.gt, h0, h1]
      go_enter Tryd.func51, Tryd.ntmps51
      go_wp2
      go_ret
      exact ⟨ret_bool hr.out.symm, rfl⟩
    · have hr : Hid (Nam.gt c = false) := by show _ = _; simp [Nam.gt, h1]
      go_enter Tryd.func51, Tryd.ntmps51
      go_wp2
      go_ret
      exact ⟨ret_bool hr.out.symm, rfl⟩
  · have hr : Hid (Nam.gt c = false) := by show _ = _; simp [Nam.gt, h0]
    go_enter Tryd.func51, Tryd.ntmps51
    go_wp2
    go_ret
    exact ⟨ret_bool hr.out.symm, rfl⟩
theorem isSmall_any (c : Int) (w : World) : Calls Tryd.prog 52 #[.int .i64 c] w fun e w' => e = .returned (.bool (Nam.sm c)) ∧ w' = w := by
  by_cases h0 : 97 ≤ c
  · by_cases h1 : c ≤ 122
    · have hr : Hid (Nam.sm c = true) := by show _ = _; simp [Nam.sm, h0, h1]
      go_enter Tryd.func52, Tryd.ntmps52
      go_wp2
      go_ret
      exact ⟨ret_bool hr.out.symm, rfl⟩
    · have hr : Hid (Nam.sm c = false) := by show _ = _; simp [Nam.sm, h1]
      go_enter Tryd.func52, Tryd.ntmps52
      go_wp2
      go_ret
      exact ⟨ret_bool hr.out.symm, rfl⟩
  · have hr : Hid (Nam.sm c = false) := by show _ = _; simp [Nam.sm, h0]
    go_enter Tryd.func52, Tryd.ntmps52
    go_wp2
    go_ret
    exact ⟨ret_bool hr.out.symm, rfl⟩

theorem grade_any (c : Int) (w : World) : Calls Tryd.prog 39 #[.int .i64 c] w fun e w' => e = .returned (.bool (Nam.grade c)) ∧ w' = w := by
  have H1 : Hid (∀ w : World, Calls Tryd.prog 50 #[.int .i64 c] w fun e w' => e = .returned (.bool (Nam.dg c)) ∧ w' = w) := fun w => isDigit_any c w
  have H2 : Hid (∀ w : World, Calls Tryd.prog 51 #[.int .i64 c] w fun e w' => e = .returned (.bool (Nam.gt c)) ∧ w' = w) := fun w => isGreat_any c w
  have H3 : Hid (∀ w : World, Calls Tryd.prog 52 #[.int .i64 c] w fun e w' => e = .returned (.bool (Nam.sm c)) ∧ w' = w) := fun w => isSmall_any c w
  have hr : Hid (Nam.grade c = (Nam.dg c || Nam.gt c || Nam.sm c)) := rfl
  generalize Nam.dg c = a at *
  generalize Nam.gt c = b at *
  generalize Nam.sm c = d at *
  cases a
  · cases b
    · go_enter Tryd.func39, Tryd.ntmps39
      go_wp2_with (go_at_call 50; refine (H1.out _).mono ?_; rintro e w' ⟨rfl, rfl⟩)
      go_wp2_with (go_at_call 51; refine (H2.out _).mono ?_; rintro e w' ⟨rfl, rfl⟩)
      go_wp2_with (go_at_call 52; refine (H3.out _).mono ?_; rintro e w' ⟨rfl, rfl⟩)
      go_ret
      exact ⟨ret_bool (by rw [hr.out]; rfl), rfl⟩
    · go_enter Tryd.func39, Tryd.ntmps39
      go_wp2_with (go_at_call 50; refine (H1.out _).mono ?_; rintro e w' ⟨rfl, rfl⟩)
      go_wp2_with (go_at_call 51; refine (H2.out _).mono ?_; rintro e w' ⟨rfl, rfl⟩)
      go_ret
      exact ⟨ret_bool (by rw [hr.out]; rfl), rfl⟩
  · go_enter Tryd.func39, Tryd.ntmps39
    go_wp2_with (go_at_call 50; refine (H1.out _).mono ?_; rintro e w' ⟨rfl, rfl⟩)
    go_ret
    exact ⟨ret_bool (by rw [hr.out]; rfl), rfl⟩


set_option maxHeartbeats 1000000 in
theorem mayBe_any (g n : Int) (w : World) : Calls Tryd.prog 26 #[.agg #[.int .i64 g, .int .i64 n]] w fun e w' => e = .returned (.bool (Nam.may g n)) ∧ w' = w.alloc (.cells #[.int .i64 g, .int .i64 n] 27) := by
  have H1 : Hid (∀ w : World, Calls Tryd.prog 39 #[.int .i64 g] w fun e w' => e = .returned (.bool (Nam.grade g)) ∧ w' = w) := fun w => grade_any g w
  have hr : Hid (Nam.may g n = (Nam.grade g && decide (1 ≤ n) && decide (n ≤ 99999))) := rfl
  generalize Nam.grade g = a at *
  cases a
  · go_enter Tryd.func26, Tryd.ntmps26
    go_wp2_with (go_at_call 39; refine (H1.out _).mono ?_; rintro e w' ⟨rfl, rfl⟩)
    go_ret
    exact ⟨ret_bool (by rw [hr.out]; rfl), rfl⟩
  · by_cases h0 : 1 ≤ n
    · have hr2 : Hid (Nam.may g n = decide (n ≤ 99999)) := by show _ = _; rw [hr.out]; simp [h0]
      by_cases h1 : n ≤ 99999
      all_goals
        go_enter Tryd.func26, Tryd.ntmps26
        go_wp2_with (go_at_call 39; refine (H1.out _).mono ?_; rintro e w' ⟨rfl, rfl⟩)
        go_ret
        exact ⟨ret_bool (by simp [hr2.out, h1]), rfl⟩
    · have hr2 : Hid (Nam.may g n = false) := by show _ = _; rw [hr.out]; simp [h0]
      go_enter Tryd.func26, Tryd.ntmps26
      go_wp2_with (go_at_call 39; refine (H1.out _).mono ?_; rintro e w' ⟨rfl, rfl⟩)
      go_ret
      exact ⟨ret_bool (by rw [hr2.out]), rfl⟩
end Go.Proofs.YtgcbaflaidehnaaDoor
