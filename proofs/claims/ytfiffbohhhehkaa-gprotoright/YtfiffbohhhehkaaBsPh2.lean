/-
  Layer 15: GprotoRight: whatever is handed in.
-/
import Derived.Test.YtfiffbohhhehkaaBsPh1
namespace Go.Proofs.Ytfiffbohhhehkaa
open Go.RowKit
set_option maxHeartbeats 1000000 in
set_option maxRecDepth 100000 in
theorem right_long (x y : Int) (n cap : Nat) (a : Option Addr) (w : World) (hn : decide ((100 : Int) < (n : Int)) = true) (HA : Hid (Calls Try.prog 4 #[] w fun e w' => e = .returned (.bool true) ∧ Below w.heap.size w w')) :
    Calls Try.prog 3 #[.int .i64 x, .int .i64 y, .slice a n cap] w fun e w' => e = .returned (.bool true) ∧ Below w.heap.size w w' := by
  go_enter Try.func3, Try.ntmps3
  go_wp2_with (go_at_call 4; refine HA.out.mono ?_; rintro e w9 ⟨rfl, b9⟩)
  go_ret
  exact ⟨rfl, b9⟩
theorem right_walk (x y : Int) (a : Option Addr) (cap : Nat) (l : List Gp.Op5) (w : World) (row : ERow goE w a l) :
    Calls Try.prog 3 #[.int .i64 x, .int .i64 y, .slice a l.length cap] w fun e w' => e = .returned (.bool true) ∧ Below w.heap.size w w' := by
  by_cases hn : 100 < l.length
  · exact right_long x y l.length cap a w (by simp; omega) (awake_any w)
  · obtain ⟨U, K, u0, u1, hK, k0, k1⟩ := two_letters x
    obtain ⟨lt, hlt, cl⟩ := letter_at w K hK
    exact right_core x y U K l.length cap l a w lt u0 u1 k0 k1 cl hlt rfl (by simp; omega) (by show _ ≤ _; omega) row
end Go.Proofs.Ytfiffbohhhehkaa
