/-
  Walks of layer 12: which kinds may be, numbers up to a bound, how many bytes a body has.
-/
import Derived.Test.YtghelhcmecmldaaMathIf
import Derived.Test.YtghelhcmecmldaaRet
namespace Go.Proofs.Ytghelhcmecmldaa
open Go.RowKit
theorem isKind_any (k : Int) (w : World) : Calls Try.prog 16 #[.int .i64 k] w fun e w' => e = .returned (.bool (If.kind k)) ∧ w' = w := by
  cases hk : If.kind k with
  | true =>
    rcases If.kind_cases hk with rfl | rfl | rfl | rfl | rfl
    all_goals
      clear hk
      go_enter Try.func16, Try.ntmps16
      go_wp2
      go_ret
      exact ⟨rfl, rfl⟩
  | false =>
    obtain ⟨h0, h1, h2, h3, h5⟩ := If.kind_no hk
    have e0 : (k == 0) = false := beq_eq_false_iff_ne.2 h0
    have e1 : (k == 1) = false := beq_eq_false_iff_ne.2 h1
    have e2 : (k == 2) = false := beq_eq_false_iff_ne.2 h2
    have e3 : (k == 3) = false := beq_eq_false_iff_ne.2 h3
    have e5 : (k == 5) = false := beq_eq_false_iff_ne.2 h5
    clear hk h0 h1 h2 h3 h5
    go_enter Try.func16, Try.ntmps16
    go_wp2
    go_ret
    exact ⟨rfl, rfl⟩
theorem rkind_any (k : Int) (w : World) : Calls Try.prog 20 #[.int .i64 k] w fun e w' => e = .returned (.bool (If.kind k)) ∧ w' = w := by
  cases hk : If.kind k with
  | true =>
    rcases If.kind_cases hk with rfl | rfl | rfl | rfl | rfl
    all_goals
      clear hk
      go_enter Try.func20, Try.ntmps20
      go_wp2
      go_ret
      exact ⟨rfl, rfl⟩
  | false =>
    obtain ⟨h0, h1, h2, h3, h5⟩ := If.kind_no hk
    have e0 : (k == 0) = false := beq_eq_false_iff_ne.2 h0
    have e1 : (k == 1) = false := beq_eq_false_iff_ne.2 h1
    have e2 : (k == 2) = false := beq_eq_false_iff_ne.2 h2
    have e3 : (k == 3) = false := beq_eq_false_iff_ne.2 h3
    have e5 : (k == 5) = false := beq_eq_false_iff_ne.2 h5
    clear hk h0 h1 h2 h3 h5
    go_enter Try.func20, Try.ntmps20
    go_wp2
    go_ret
    exact ⟨rfl, rfl⟩
theorem isUpTo_any (n m : Int) (w : World) :
    Calls Try.prog 17 #[.int .i64 n, .int .i64 m] w fun e w' => e = .returned (.bool (decide (0 ≤ n ∧ n ≤ m))) ∧ w' = w := by
  by_cases h1 : 0 ≤ n
  · by_cases h2 : n ≤ m
    · have hr : Hid (decide (0 ≤ n ∧ n ≤ m) = true) := decide_eq_true ⟨h1, h2⟩
      go_enter Try.func17, Try.ntmps17
      go_wp2
      go_ret
      exact ⟨ret_bool (by first | exact hr.out.symm | rfl | (rw [hr.out]; simp; omega) | (simp; omega)), rfl⟩
    · have hr : Hid (decide (0 ≤ n ∧ n ≤ m) = false) := decide_eq_false fun h => h2 h.2
      go_enter Try.func17, Try.ntmps17
      go_wp2
      go_ret
      exact ⟨ret_bool (by first | exact hr.out.symm | rfl | (rw [hr.out]; simp; omega) | (simp; omega)), rfl⟩
  · have hr : Hid (decide (0 ≤ n ∧ n ≤ m) = false) := decide_eq_false fun h => h1 h.1
    go_enter Try.func17, Try.ntmps17
    go_wp2
    go_ret
    exact ⟨ret_bool (by first | exact hr.out.symm | rfl | (rw [hr.out]; simp; omega) | (simp; omega)), rfl⟩
theorem bodySize_any (n : Nat) (hn : n < 1000000) (w : World) : Calls Try.prog 25 #[.int .i64 n] w fun e w' => e = .returned (.int .i64 (If.bsz n : Nat)) ∧ w' = w := by
  by_cases h : n = 0
  · subst h
    go_enter Try.func25, Try.ntmps25
    go_wp2
    go_ret
    exact ⟨rfl, rfl⟩
  · have hr : Hid (If.bsz n = n + 4) := by show _ = _; unfold If.bsz; rw [if_neg h]
    have e : ((n : Int) == 0) = false := beq_eq_false_iff_ne.2 (by omega)
    clear h
    go_enter Try.func25, Try.ntmps25
    go_wp2
    go_ret
    exact ⟨ret_int (by rw [hr.out]; go_num), rfl⟩
end Go.Proofs.Ytghelhcmecmldaa
