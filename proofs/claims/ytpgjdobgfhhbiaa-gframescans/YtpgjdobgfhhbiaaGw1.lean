/-
  Walks of layer 11: Code, the parts and the control byte.
-/
import Derived.Test.YtpgjdobgfhhbiaaMathGf
import Derived.Test.YtpgjdobgfhhbiaaPkt
import Derived.Test.YtpgjdobgfhhbiaaRet
namespace Go.Proofs.Ytpgjdobgfhhbiaa
open Go.RowKit

namespace Gf
theorem code_none {z : Int} (h : ∀ j < 8, z ≠ ((32 * 2 ^ j : Nat) : Int)) : code z = 0 := by
  have h0 := h 0 (by decide); have h1 := h 1 (by decide); have h2 := h 2 (by decide); have h3 := h 3 (by decide)
  have h4 := h 4 (by decide); have h5 := h 5 (by decide); have h6 := h 6 (by decide); have h7 := h 7 (by decide)
  unfold code
  simp_all
theorem code_hit {k : Nat} (h : k < 8) : code ((32 * 2 ^ k : Nat) : Int) = k + 1 := by
  have : k = 0 ∨ k = 1 ∨ k = 2 ∨ k = 3 ∨ k = 4 ∨ k = 5 ∨ k = 6 ∨ k = 7 := by omega
  rcases this with h | h | h | h | h | h | h | h <;> subst h <;> decide
theorem shl32 {k : Nat} (h : k < 8) : wrap64 ((32 : Int) * 2 ^ k) = ((32 * 2 ^ k : Nat) : Int) := by
  have : k = 0 ∨ k = 1 ∨ k = 2 ∨ k = 3 ∨ k = 4 ∨ k = 5 ∨ k = 6 ∨ k = 7 := by omega
  rcases this with h | h | h | h | h | h | h | h <;> subst h <;> decide +kernel
theorem u64_small {k : Nat} (h : k < 8) : IntKind.u64.wrap (k : Int) = (k : Int) := by rw [IntKind.wrap_u64]; omega
end Gf
set_option maxHeartbeats 1000000 in
theorem gcode_any (z : Int) (w : World) :
    Calls Try.prog 12 #[.int .i64 z] w fun e w' => e = .returned (.int .i64 (Gf.code z)) ∧ w' = w := by
  go_enter Try.func12, Try.ntmps12
  go_wp2
  go_loopw [4] (fun i wr => ∃ k : Nat, k ≤ 8 ∧ i = .int .i64 k ∧ Hid (∀ j < k, z ≠ ((32 * 2 ^ j : Nat) : Int)) ∧ wr = w) (fun i _ => 8 - (intOf i).toNat)
  case atStart => exact ⟨0, Nat.zero_le _, rfl, fun j hj => absurd hj (Nat.not_lt_zero _), rfl⟩
  case round =>
    obtain ⟨k, hk, rfl, hno, rfl⟩ := hrel
    by_cases hlt : k < 8
    · have hw := Gf.shl32 hlt
      have hst : Hid (z ≠ ((32 * 2 ^ k : Nat) : Int) → ∀ j < k + 1, z ≠ ((32 * 2 ^ j : Nat) : Int)) := fun hz j hj => by
        rcases Nat.lt_succ_iff_lt_or_eq.1 hj with h | h
        · exact hno.out j h
        · rw [h]; exact hz
      have hc : Hid (z = ((32 * 2 ^ k : Nat) : Int) → Gf.code z = k + 1) := fun h => by rw [h]; exact Gf.code_hit hlt
      have hu := Gf.u64_small hlt
      clear hno
      generalize 32 * 2 ^ k = Y at *
      by_cases he : z = (Y : Int)
      · have hd : (z == (Y : Int)) = true := beq_iff_eq.2 he
        have hc : Hid (Gf.code z = k + 1) := hc.out he
        clear he hst
        go_wp2
        go_ret
        exact ⟨ret_i (by rw [hc.out]; go_num), rfl⟩
      · have hd : (z == (Y : Int)) = false := beq_eq_false_iff_ne.2 he
        have hst := hst.out he
        have hst : Hid _ := hst
        clear he hc
        go_wp2
        go_roundw
        case rel => exact ⟨k + 1, by omega, by go_num, hst, trivial⟩
        case measure => simp [intOf]; omega
    · obtain rfl : k = 8 := by omega
      have hr : Hid (Gf.code z = 0) := Gf.code_none hno.out
      clear hno
      go_wp2
      go_ret
      exact ⟨ret_i (by rw [hr.out]; rfl), rfl⟩
set_option maxHeartbeats 1000000 in
theorem rgcode_any (z : Int) (w : World) :
    Calls Try.prog 13 #[.int .i64 z] w fun e w' => e = .returned (.int .i64 (Gf.code z)) ∧ w' = w := by
  go_enter Try.func13, Try.ntmps13
  go_wp2
  go_loopw [4] (fun i wr => ∃ k : Nat, k ≤ 8 ∧ i = .int .i64 k ∧ Hid (∀ j < k, z ≠ ((32 * 2 ^ j : Nat) : Int)) ∧ wr = w) (fun i _ => 8 - (intOf i).toNat)
  case atStart => exact ⟨0, Nat.zero_le _, rfl, fun j hj => absurd hj (Nat.not_lt_zero _), rfl⟩
  case round =>
    obtain ⟨k, hk, rfl, hno, rfl⟩ := hrel
    by_cases hlt : k < 8
    · have hw := Gf.shl32 hlt
      have hst : Hid (z ≠ ((32 * 2 ^ k : Nat) : Int) → ∀ j < k + 1, z ≠ ((32 * 2 ^ j : Nat) : Int)) := fun hz j hj => by
        rcases Nat.lt_succ_iff_lt_or_eq.1 hj with h | h
        · exact hno.out j h
        · rw [h]; exact hz
      have hc : Hid (z = ((32 * 2 ^ k : Nat) : Int) → Gf.code z = k + 1) := fun h => by rw [h]; exact Gf.code_hit hlt
      have hu := Gf.u64_small hlt
      clear hno
      generalize 32 * 2 ^ k = Y at *
      by_cases he : z = (Y : Int)
      · have hd : (z == (Y : Int)) = true := beq_iff_eq.2 he
        have hc : Hid (Gf.code z = k + 1) := hc.out he
        clear he hst
        go_wp2
        go_ret
        exact ⟨ret_i (by rw [hc.out]; go_num), rfl⟩
      · have hd : (z == (Y : Int)) = false := beq_eq_false_iff_ne.2 he
        have hst := hst.out he
        have hst : Hid _ := hst
        clear he hc
        go_wp2
        go_roundw
        case rel => exact ⟨k + 1, by omega, by go_num, hst, trivial⟩
        case measure => simp [intOf]; omega
    · obtain rfl : k = 8 := by omega
      have hr : Hid (Gf.code z = 0) := Gf.code_none hno.out
      clear hno
      go_wp2
      go_ret
      exact ⟨ret_i (by rw [hr.out]; rfl), rfl⟩

theorem isPart_any (n : Int) (w : World) :
    Calls Try.prog 18 #[.int .i64 n] w fun e w' => e = .returned (.bool (decide (0 ≤ n ∧ n ≤ 7))) ∧ w' = w := by
  by_cases h1 : 0 ≤ n
  · by_cases h2 : n ≤ 7
    · have hr : Hid (decide (0 ≤ n ∧ n ≤ 7) = true) := decide_eq_true ⟨h1, h2⟩
      go_enter Try.func18, Try.ntmps18
      go_wp2
      go_ret
      exact ⟨ret_b (by first | exact hr.out.symm | rfl | (rw [hr.out]; simp; omega) | (simp; omega)), rfl⟩
    · have hr : Hid (decide (0 ≤ n ∧ n ≤ 7) = false) := decide_eq_false fun h => h2 h.2
      go_enter Try.func18, Try.ntmps18
      go_wp2
      go_ret
      exact ⟨ret_b (by first | exact hr.out.symm | rfl | (rw [hr.out]; simp; omega) | (simp; omega)), rfl⟩
  · have hr : Hid (decide (0 ≤ n ∧ n ≤ 7) = false) := decide_eq_false fun h => h1 h.1
    go_enter Try.func18, Try.ntmps18
    go_wp2
    go_ret
    exact ⟨ret_b (by first | exact hr.out.symm | rfl | (rw [hr.out]; simp; omega) | (simp; omega)), rfl⟩

theorem sizeOf_any (k : Nat) (h1 : 1 ≤ k) (h2 : k ≤ 8) (w : World) :
    Calls Try.prog 30 #[.int .i64 k] w fun e w' => e = .returned (.int .i64 (Gf.size k : Nat)) ∧ w' = w := by
  have hh : k = 1 ∨ k = 2 ∨ k = 3 ∨ k = 4 ∨ k = 5 ∨ k = 6 ∨ k = 7 ∨ k = 8 := by omega
  clear h1 h2
  rcases hh with h | h | h | h | h | h | h | h <;> subst h
  all_goals (
    go_enter Try.func30, Try.ntmps30
    go_wp2
    go_ret
    exact ⟨ret_i (by first | rfl | decide), rfl⟩)

theorem isCodeOf_any (t k : Nat) (w : World) :
    Calls Try.prog 29 #[.int .i64 t, .int .i64 k] w fun e w' => e = .returned (.bool (Gf.okCode t k)) ∧ w' = w := by
  by_cases t0 : t = 0
  · subst t0
    have hr : Hid (Gf.okCode 0 k = ((k : Int) == 9)) := by
      show _ = _
      unfold Gf.okCode
      rw [if_pos rfl]
      by_cases hk : k = 9
      · subst hk; rfl
      · rw [beq_eq_false_iff_ne.2 hk, beq_eq_false_iff_ne.2 (by omega)]
    go_enter Try.func29, Try.ntmps29
    go_wp2
    go_ret
    exact ⟨ret_b (by first | exact hr.out.symm | rfl | (rw [hr.out]; simp; omega) | (simp; omega)), rfl⟩
  have e0 : ((t : Int) == 0) = false := beq_eq_false_iff_ne.2 (by omega)
  by_cases t2 : t = 2 ∨ t = 3
  · have hr : Gf.okCode t k = decide (1 ≤ k ∧ k ≤ 8) := by unfold Gf.okCode; rw [if_neg t0, if_pos t2]
    clear t0 e0
    by_cases h1 : 1 ≤ k
    · by_cases h2 : k ≤ 8
      · have hr : Hid (Gf.okCode t k = true) := hr.trans (decide_eq_true ⟨h1, h2⟩)
        rcases t2 with rfl | rfl
        all_goals (
          go_enter Try.func29, Try.ntmps29
          go_wp2
          go_ret
          exact ⟨ret_b (by first | exact hr.out.symm | rfl | (rw [hr.out]; simp; omega) | (simp; omega)), rfl⟩)
      · have hr : Hid (Gf.okCode t k = false) := hr.trans (decide_eq_false fun h => h2 h.2)
        rcases t2 with rfl | rfl
        all_goals (
          go_enter Try.func29, Try.ntmps29
          go_wp2
          go_ret
          exact ⟨ret_b (by first | exact hr.out.symm | rfl | (rw [hr.out]; simp; omega) | (simp; omega)), rfl⟩)
    · have hr : Hid (Gf.okCode t k = false) := hr.trans (decide_eq_false fun h => h1 h.1)
      rcases t2 with rfl | rfl
      all_goals (
        go_enter Try.func29, Try.ntmps29
        go_wp2
        go_ret
        exact ⟨ret_b (by first | exact hr.out.symm | rfl | (rw [hr.out]; simp; omega) | (simp; omega)), rfl⟩)
  · have hr : Hid (Gf.okCode t k = false) := by show _ = _; unfold Gf.okCode; rw [if_neg t0, if_neg t2]
    have e2 : ((t : Int) == 2) = false := beq_eq_false_iff_ne.2 (by omega)
    have e3 : ((t : Int) == 3) = false := beq_eq_false_iff_ne.2 (by omega)
    clear t0 t2
    go_enter Try.func29, Try.ntmps29
    go_wp2
    go_ret
    exact ⟨ret_b (by first | exact hr.out.symm | rfl | (rw [hr.out]; simp; omega) | (simp; omega)), rfl⟩
end Go.Proofs.Ytpgjdobgfhhbiaa
