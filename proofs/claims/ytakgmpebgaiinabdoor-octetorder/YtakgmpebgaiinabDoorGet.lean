/-
  Walks of layer 1: octet.isSize, octet.Get, the document's Get.
-/
import Derived.Test.YtakgmpebgaiinabDoorNum
import Derived.Test.YtakgmpebgaiinabDoorMathB
import Derived.Test.YtakgmpebgaiinabDoorBits
namespace Go.Proofs.YtakgmpebgaiinabDoor
open Go.RowKit

theorem isSize_yes (n : Int) (w : World) (h1 : 1 ≤ n) (h4 : n ≤ 4) : Calls Tryd.prog 10 #[.int .i64 n] w fun e w' => e = .returned (.bool true) ∧ w' = w := by
  go_enter Tryd.func10, Tryd.ntmps10
  go_wp2
  go_ret
  exact ⟨ret_bool (by simp), rfl⟩
theorem isSize_no (n : Int) (w : World) (h : n < 1 ∨ 4 < n) : Calls Tryd.prog 10 #[.int .i64 n] w fun e w' => e = .returned (.bool false) ∧ w' = w := by
  by_cases h1 : 1 ≤ n
  · have h4 : 4 < n := by omega
    clear h
    go_enter Tryd.func10, Tryd.ntmps10
    go_wp2
    go_ret
    exact ⟨ret_bool (by simp; omega), rfl⟩
  · have h4 : n < 1 := by omega
    have hd : decide (1 ≤ n) = false := by simp; omega
    clear h h1
    go_enter Tryd.func10, Tryd.ntmps10
    go_wp2
    go_ret
    exact ⟨rfl, rfl⟩

end Go.Proofs.YtakgmpebgaiinabDoor
