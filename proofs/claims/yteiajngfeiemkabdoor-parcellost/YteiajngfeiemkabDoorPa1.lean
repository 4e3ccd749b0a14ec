/-
  Walks of layer 13: which tags there are.
-/
import Derived.Test.YteiajngfeiemkabDoorMathPa
import Derived.Test.YteiajngfeiemkabDoorRet
namespace Go.Proofs.YteiajngfeiemkabDoor
open Go.RowKit
theorem isTag_any (t : Int) (w : World) : Calls Tryd.prog 16 #[.int .i64 t] w fun e w' => e = .returned (.bool (Pa.tag t)) ∧ w' = w := by
  cases hk : Pa.tag t with
  | true =>
    rcases Pa.tag_cases hk with rfl | rfl | rfl
    all_goals
      clear hk
      go_enter Tryd.func16, Tryd.ntmps16
      go_wp2
      go_ret
      exact ⟨rfl, rfl⟩
  | false =>
    obtain ⟨h0, h1, h2⟩ := Pa.tag_no hk
    have e0 : (t == 99) = false := beq_eq_false_iff_ne.2 h0
    have e1 : (t == 100) = false := beq_eq_false_iff_ne.2 h1
    have e2 : (t == 122) = false := beq_eq_false_iff_ne.2 h2
    clear hk h0 h1 h2
    go_enter Tryd.func16, Tryd.ntmps16
    go_wp2
    go_ret
    exact ⟨rfl, rfl⟩
end Go.Proofs.YteiajngfeiemkabDoor
