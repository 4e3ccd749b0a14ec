/-
  Layer 8: the document's plain and escape.
-/
import Derived.Test.YteepfifglafjmaaDoorCh2
import Derived.Test.YteepfifglafjmaaDoorMathW
namespace Go.Proofs.YteepfifglafjmaaDoor
open Go.RowKit

set_option maxHeartbeats 1000000 in
set_option maxRecDepth 100000 in
theorem rplain_any (c : UInt8) (w : World) : Calls Tryd.prog 39 #[.int .u8 (c.toNat : Int)] w fun e w' => e = .returned (.bool (Ch.plain c)) ∧ w' = w := by
  by_cases h0 : 33 ≤ c.toNat
  · have d0 : decide ((33 : Int) ≤ (c.toNat : Int)) = true := by simp only [decide_eq_true_eq]; omega
    by_cases h1 : c.toNat ≤ 126
    · have d1 : decide ((c.toNat : Int) ≤ 126) = true := by simp only [decide_eq_true_eq]; omega
      by_cases h2 : c.toNat ≠ 92
      · have d2 : ((c.toNat : Int) != 92) = true := by rw [bne_iff_ne]; omega
        by_cases h3 : c.toNat ≠ 45
        · have d3 : ((c.toNat : Int) != 45) = true := by rw [bne_iff_ne]; omega
          by_cases h4 : c.toNat ≠ 34
          · have d4 : ((c.toNat : Int) != 34) = true := by rw [bne_iff_ne]; omega
            rw [show Ch.plain c = true by simp [Ch.plain, h0, h1, h2, h3, h4]]
            clear h0 h1 h2 h3 h4
            go_enter Tryd.func39, Tryd.ntmps39
            go_wp2
            go_ret
            exact ⟨rfl, rfl⟩
          · have d4 : ((c.toNat : Int) != 34) = false := by rw [bne_eq_false_iff_eq]; omega
            rw [show Ch.plain c = false by simp [Ch.plain, h0, h1, h2, h3, h4]]
            clear h0 h1 h2 h3 h4
            go_enter Tryd.func39, Tryd.ntmps39
            go_wp2
            go_ret
            exact ⟨rfl, rfl⟩
        · have d3 : ((c.toNat : Int) != 45) = false := by rw [bne_eq_false_iff_eq]; omega
          rw [show Ch.plain c = false by simp [Ch.plain, h0, h1, h2, h3]]
          clear h0 h1 h2 h3
          go_enter Tryd.func39, Tryd.ntmps39
          go_wp2
          go_ret
          exact ⟨rfl, rfl⟩
      · have d2 : ((c.toNat : Int) != 92) = false := by rw [bne_eq_false_iff_eq]; omega
        rw [show Ch.plain c = false by simp [Ch.plain, h0, h1, h2]]
        clear h0 h1 h2
        go_enter Tryd.func39, Tryd.ntmps39
        go_wp2
        go_ret
        exact ⟨rfl, rfl⟩
    · have d1 : decide ((c.toNat : Int) ≤ 126) = false := by simp only [decide_eq_false_iff_not]; omega
      rw [show Ch.plain c = false by simp [Ch.plain, h0, h1]]
      clear h0 h1
      go_enter Tryd.func39, Tryd.ntmps39
      go_wp2
      go_ret
      exact ⟨rfl, rfl⟩
  · have d0 : decide ((33 : Int) ≤ (c.toNat : Int)) = false := by simp only [decide_eq_false_iff_not]; omega
    rw [show Ch.plain c = false by simp [Ch.plain, h0]]
    clear h0
    go_enter Tryd.func39, Tryd.ntmps39
    go_wp2
    go_ret
    exact ⟨rfl, rfl⟩

end Go.Proofs.YteepfifglafjmaaDoor
