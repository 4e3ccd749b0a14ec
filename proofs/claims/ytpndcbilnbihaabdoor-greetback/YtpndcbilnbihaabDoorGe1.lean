/-
  Layer 9: Reply, the program's and the document's.
-/
import Derived.Test.YtpndcbilnbihaabDoorGs1
import Derived.Test.YtpndcbilnbihaabDoorTxt
namespace Go.Proofs.YtpndcbilnbihaabDoor
open Go.RowKit

theorem isNumber_yes (n : Int) (w : World) (h : 0 ≤ n ∧ n ≤ 1099511627776) : Calls Tryd.prog 18 #[.int .i64 n] w fun e w' => e = .returned (.bool true) ∧ w' = w := by
  have d0 : decide (0 ≤ n) = true := by simp only [decide_eq_true_eq]; exact h.1
  have d1 : decide (n ≤ 1099511627776) = true := by simp only [decide_eq_true_eq]; exact h.2
  clear h
  go_enter Tryd.func18, Tryd.ntmps18
  go_wp2
  go_ret
  exact ⟨rfl, rfl⟩
theorem isNumber_no (n : Int) (w : World) (h : ¬ (0 ≤ n ∧ n ≤ 1099511627776)) : Calls Tryd.prog 18 #[.int .i64 n] w fun e w' => e = .returned (.bool false) ∧ w' = w := by
  by_cases h0 : 0 ≤ n
  · have d0 : decide (0 ≤ n) = true := by simp only [decide_eq_true_eq]; exact h0
    have d1 : decide (n ≤ 1099511627776) = false := by simp only [decide_eq_false_iff_not]; omega
    clear h
    go_enter Tryd.func18, Tryd.ntmps18
    go_wp2
    go_ret
    exact ⟨rfl, rfl⟩
  · have d0 : decide (0 ≤ n) = false := by simp only [decide_eq_false_iff_not]; exact h0
    clear h
    go_enter Tryd.func18, Tryd.ntmps18
    go_wp2
    go_ret
    exact ⟨rfl, rfl⟩
theorem itoa_small (n : Int) (h0 : -9223372036854775808 ≤ n) (h1 : n ≤ 9223372036854775807) : (⟨(Lib.itoa n).toArray⟩ : ByteArray).size ≤ 21 := by
  show (Lib.itoa n).toArray.size ≤ 21
  rw [List.size_toArray]
  exact Lib.itoa_length_le n h0 h1
namespace Gr
/-- P9.5 -/
def reply (why n : Int) : ByteArray × Int :=
  if ¬ (0 ≤ n ∧ n ≤ 1099511627776) ∨ (n ≠ 0 ∧ why ≠ 13) then (⟨#[]⟩, 1)
  else if why = 0 then (⟨#[82, 79, 75]⟩, 0)
  else if why = 10 then (⟨#[82, 76, 67, 75]⟩, 0)
  else if why = 12 then (⟨#[82, 76, 79, 71, 73, 78]⟩, 0)
  else if why = 13 then (⟨#[82, 66, 65, 68, 83, 69, 81, 32]⟩ ++ ⟨(Lib.itoa n).toArray⟩, 0)
  else (⟨#[]⟩, 1)
end Gr

end Go.Proofs.YtpndcbilnbihaabDoor
