/-
  Walks of layer 1: the document's plain, hex, digit, Quote.
-/
import Derived.Test.YtakgmpebgaiinaaDoorQuo
import Derived.Deep.QuietTactic
import Derived.BigQuiet
namespace Go.Proofs.YtakgmpebgaiinaaDoor
open Go.RowKit

theorem refPlain_yes (x : Int) (w : World) (h : Oct.plainI x = true) : Calls Tryd.prog 31 #[.int .u8 x] w fun e w' => e = .returned (.bool true) ∧ w' = w := by
  obtain ⟨h1, h2, h3⟩ := Oct.plainI_iff.1 h
  have d : (x != 92) = true := by rw [bne_iff_ne]; exact h3
  clear h h3
  go_enter Tryd.func31, Tryd.ntmps31
  go_wp2
  go_ret
  exact ⟨rfl, rfl⟩
theorem refPlain_no (x : Int) (w : World) (h : Oct.plainI x = false) : Calls Tryd.prog 31 #[.int .u8 x] w fun e w' => e = .returned (.bool false) ∧ w' = w := by
  have h' := Oct.plainI_not.1 h
  by_cases h1 : 33 ≤ x
  · by_cases h2 : x ≤ 126
    · have d : (x != 92) = false := by rw [bne_eq_false_iff_eq]; omega
      clear h h'
      go_enter Tryd.func31, Tryd.ntmps31
      go_wp2
      go_ret
      exact ⟨rfl, rfl⟩
    · have d : decide (x ≤ 126) = false := by simp; omega
      clear h h' h2
      go_enter Tryd.func31, Tryd.ntmps31
      go_wp2
      go_ret
      exact ⟨rfl, rfl⟩
  · have d : decide (33 ≤ x) = false := by simp; omega
    clear h h' h1
    go_enter Tryd.func31, Tryd.ntmps31
    go_wp2
    go_ret
    exact ⟨rfl, rfl⟩

theorem ret_u8 {a b : Int} (h : a = b) : Ending.returned (.int .u8 a) = .returned (.int .u8 b) := by rw [h]
theorem ret_int {a b : Int} (h : a = b) : Ending.returned (.int .i64 a) = .returned (.int .i64 b) := by rw [h]

/-- hex at a small number. -/
theorem hex_any (n : Int) (w : World) (h0 : 0 ≤ n) (h1 : n < 16) : Calls Tryd.prog 34 #[.int .u8 n] w fun e w' => e = .returned (.int .u8 ((Oct.hexc n.toNat).toNat : Int)) ∧ w' = w := by
  have hh := Oct.hexc_nat n.toNat (by omega)
  by_cases h : n < 10
  · have hr : Hid (((Oct.hexc n.toNat).toNat : Int) = 48 + n) := by show _ = _; rw [hh, if_pos (by omega)]; omega
    clear hh
    go_enter Tryd.func34, Tryd.ntmps34
    go_wp2
    go_ret
    exact ⟨ret_u8 hr.out.symm, rfl⟩
  · have hr : Hid (((Oct.hexc n.toNat).toNat : Int) = 97 + n - 10) := by show _ = _; rw [hh, if_neg (by omega)]; omega
    clear hh
    go_enter Tryd.func34, Tryd.ntmps34
    go_wp2
    go_ret
    exact ⟨ret_u8 hr.out.symm, rfl⟩

namespace Oct
/-- A small hexadecimal digit's number; -1: none. -/
def digit (x : Int) : Int := if 48 ≤ x ∧ x ≤ 57 then x - 48 else if 97 ≤ x ∧ x ≤ 102 then x - 87 else -1
theorem digit_lo {x : Int} (h : 48 ≤ x) (h' : x ≤ 57) : digit x = x - 48 := by unfold digit; rw [if_pos ⟨h, h'⟩]
theorem digit_hi {x : Int} (h : 97 ≤ x) (h' : x ≤ 102) : digit x = x - 87 := by unfold digit; rw [if_neg (by omega), if_pos ⟨h, h'⟩]
theorem digit_no {x : Int} (h : ¬ (48 ≤ x ∧ x ≤ 57)) (h' : ¬ (97 ≤ x ∧ x ≤ 102)) : digit x = -1 := by unfold digit; rw [if_neg h, if_neg h']
theorem digit_bd (x : Int) : -1 ≤ digit x ∧ digit x ≤ 15 := by
  unfold digit
  split
  · omega
  · split <;> omega
end Oct

theorem digit_any (x : Int) (w : World) (h0 : 0 ≤ x) (h1 : x < 256) : Calls Tryd.prog 32 #[.int .u8 x] w fun e w' => e = .returned (.int .i64 (Oct.digit x)) ∧ w' = w := by
  by_cases ha : 48 ≤ x ∧ x ≤ 57
  · obtain ⟨a, b⟩ := ha
    have hr : Hid (Oct.digit x = x - 48) := Oct.digit_lo a b
    go_enter Tryd.func32, Tryd.ntmps32
    go_wp2
    go_ret
    exact ⟨ret_int hr.out.symm, rfl⟩
  · by_cases hb : 97 ≤ x ∧ x ≤ 102
    · obtain ⟨a, b⟩ := hb
      have hr : Hid (Oct.digit x = x - 97 + 10) := by show _ = _; rw [Oct.digit_hi a b]; omega
      have d1 : decide (48 ≤ x) = true := by simp; omega
      have d2 : decide (x ≤ 57) = false := by simp; omega
      clear ha
      go_enter Tryd.func32, Tryd.ntmps32
      go_wp2
      go_ret
      exact ⟨ret_int hr.out.symm, rfl⟩
    · have hr : Hid (Oct.digit x = -1) := Oct.digit_no ha hb
      by_cases c1 : x < 48
      · have d1 : decide (48 ≤ x) = false := by simp; omega
        have d2 : decide (97 ≤ x) = false := by simp; omega
        clear ha hb
        go_enter Tryd.func32, Tryd.ntmps32
        go_wp2
        go_ret
        exact ⟨ret_int hr.out.symm, rfl⟩
      · by_cases c2 : x < 97
        · have d1 : decide (48 ≤ x) = true := by simp; omega
          have d3 : decide (x ≤ 57) = false := by simp; omega
          have d2 : decide (97 ≤ x) = false := by simp; omega
          clear ha hb c1
          go_enter Tryd.func32, Tryd.ntmps32
          go_wp2
          go_ret
          exact ⟨ret_int hr.out.symm, rfl⟩
        · have d1 : decide (48 ≤ x) = true := by simp; omega
          have d3 : decide (x ≤ 57) = false := by simp; omega
          have d2 : decide (97 ≤ x) = true := by simp; omega
          have d4 : decide (x ≤ 102) = false := by simp; omega
          clear ha hb c1 c2
          go_enter Tryd.func32, Tryd.ntmps32
          go_wp2
          go_ret
          exact ⟨ret_int hr.out.symm, rfl⟩
end Go.Proofs.YtakgmpebgaiinaaDoor
