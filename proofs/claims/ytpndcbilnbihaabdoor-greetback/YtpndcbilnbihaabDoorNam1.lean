/-
  Walks of layer 3: isDigit, isGreat, isSmall, Grade, System, mayBe, isFileKind, isNoteKind, Less and the document's Grade, System, kind.
-/
import Derived.Test.YtpndcbilnbihaabDoorNum
import Derived.Test.YtpndcbilnbihaabDoorMathN
namespace Go.Proofs.YtpndcbilnbihaabDoor
open Go.RowKit

theorem isDigit_any (c : Int) (w : World) : Calls Tryd.prog 29 #[.int .i64 c] w fun e w' => e = .returned (.bool (Nam.dg c)) ∧ w' = w := by
  by_cases h0 : 48 ≤ c
  · by_cases h1 : c ≤ 57
    · have hr : Hid (Nam.dg c = true) := by show _ = _; simp [Nam.dg, h0, h1]
      go_enter Tryd.func29, Tryd.ntmps29
      go_wp2
      go_ret
      exact ⟨ret_bool hr.out.symm, rfl⟩
    · have hr : Hid (Nam.dg c = false) := by show _ = _; simp [Nam.dg, h1]
      go_enter Tryd.func29, Tryd.ntmps29
      go_wp2
      go_ret
      exact ⟨ret_bool hr.out.symm, rfl⟩
  · have hr : Hid (Nam.dg c = false) := by show _ = _; simp [Nam.dg, h0]
    go_enter Tryd.func29, Tryd.ntmps29
    go_wp2
    go_ret
    exact ⟨ret_bool hr.out.symm, rfl⟩
theorem isSmall_any (c : Int) (w : World) : Calls Tryd.prog 30 #[.int .i64 c] w fun e w' => e = .returned (.bool (Nam.sm c)) ∧ w' = w := by
  by_cases h0 : 97 ≤ c
  · by_cases h1 : c ≤ 122
    · have hr : Hid (Nam.sm c = true) := by show _ = _; simp [Nam.sm, h0, h1]
      go_enter Tryd.func30, Tryd.ntmps30
      go_wp2
      go_ret
      exact ⟨ret_bool hr.out.symm, rfl⟩
    · have hr : Hid (Nam.sm c = false) := by show _ = _; simp [Nam.sm, h1]
      go_enter Tryd.func30, Tryd.ntmps30
      go_wp2
      go_ret
      exact ⟨ret_bool hr.out.symm, rfl⟩
  · have hr : Hid (Nam.sm c = false) := by show _ = _; simp [Nam.sm, h0]
    go_enter Tryd.func30, Tryd.ntmps30
    go_wp2
    go_ret
    exact ⟨ret_bool hr.out.symm, rfl⟩

end Go.Proofs.YtpndcbilnbihaabDoor
